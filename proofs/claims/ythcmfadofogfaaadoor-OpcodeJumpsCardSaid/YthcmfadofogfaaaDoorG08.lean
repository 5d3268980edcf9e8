/- Part. -/
import Derived.Test.YthcmfadofogfaaaDoorG07
import Derived.Test.YthcmfadofogfaaaDoorG02
import Derived.Test.YthcmfadofogfaaaDoorG05
set_option maxRecDepth 100000
set_option maxHeartbeats 16000000
namespace Go.Proofs.YthcmfadofogfaaaDoor
section
open Go Go.RowKit Go.Maps Go.Shelf
attribute [local go_sem] Oper.semAt_some Grows
theorem get_byte (s : ByteArray) (p : Nat) (h : p < s.size) : s[p].toNat = byteAt s.data.toList p := by
 unfold byteAt
 rw [List.getD_eq_getElem?_getD, List.getElem?_eq_getElem (by rw [Array.length_toList]; exact h)]
 rfl
theorem places_seq (n : Nat) (hn : 1 ≤ n) (Bs : Nat) (s : ByteArray) (hs : s.size ≤ 1000000) (w : World) (hBs : Bs < w.heap.size) (hcB : w.cell? ⟨Bs, 0, none⟩ = some (.string s)) :
  SeqN Fence.wide n Tryd.prog 58 #[.pointer (some ⟨Bs, 0, none⟩)] (fun k => #[.int .i64 (nthP s.data.toList k : Int), .int .u8 (byteAt s.data.toList (nthP s.data.toList k) : Int)]) (KeepsAt [Bs]) (numP s.data.toList) w := by
 intro l J Jx W hW _ _ hY h0
 have hBs' := (hW.cell (p := ⟨Bs, 0, none⟩) hBs).trans hcB
 have hsz : s.data.toList.length = s.size := by rw [Array.length_toList]; rfl
 have HGB := hid (get_byte s)
 obtain ⟨c, hc⟩ : ∃ c, s.data.toList = c := ⟨_, rfl⟩
 rw [hc] at hY HGB hsz ⊢
 have HP := hid (And.intro (nthP_lt c (k := 0)) (And.intro (@nthP_lt c) (And.intro (@nthP_le c) (nthP_succ c))))
 have HS := hid hs
 clear hcB hc
 refine callsIn_of_wp Tryd.func58 rfl trivial ?_ rfl
 simp only [Tryd.ntmps58, List.size_toArray, List.length_cons, List.length_nil, Nat.reduceAdd, Nat.reduceSub, Array.replicate_succ, Array.replicate_zero, List.push_toArray, List.append_toArray, List.nil_append, List.cons_append]
 gi_wp2
 gi_loopw [3] (fun i wr => ∃ k : Nat, k ≤ numP c ∧ i = .int .i64 (nthP c k : Int) ∧ J k wr ∧ KeepsAt [Bs] W wr)
  (fun i _ => s.size + 40 - (intOf i).toNat)
 case atStart => exact ⟨0, Nat.zero_le _, rfl, h0, KeepsAt.refl _ _⟩
 case round =>
  obtain ⟨k, hk, rfl, hJs, hnx⟩ := hrel
  by_cases hlt : k < numP c
  ·have hYk := hY k wr hlt hJs
   have hbx : wr.cell? ⟨Bs, 0, none⟩ = some (.string s) := (hnx.cell (p := ⟨Bs, 0, none⟩) (by simp)).trans hBs'
   have hp1 : nthP c k < s.size := by rw [← hsz]; exact (HP.out.2.1 hk).1 hlt
   have hnext := nthP_succ c k
   unfold nextP at hnext
   obtain ⟨p, hp⟩ : ∃ p, nthP c k = p := ⟨_, rfl⟩
   rw [hp] at hYk hp1 hnext ⊢
   have hb := byteAt_lt c p
   have hg := HGB.out p hp1
   obtain ⟨y, hy'⟩ : ∃ y, byteAt c p = y := ⟨_, rfl⟩
   rw [hy'] at hYk hnext hb hg
   obtain ⟨fn, tmps, assign, body, hy, hR⟩ := hYk
   have p0 : (0 : Int) ≤ (p : Int) := by omega
   have p1 : (p : Int) < (s.size : Int) := by omega
   have HN := hid hnext
   have HPS := hid (fun w => pushed_any w y hb)
   have HNX := hid hnx
   have HK := hid (And.intro hlt (And.intro hk hp1))
   have HB := hid hb
   have HRR := hid hR
   clear hnext hb hnx hlt hk hp hy' h0 hsz hY hR hJs
   gi_wp2
   refine HRR.out.mono ?_
   rintro e W3 (⟨rfl, hJ3, hk3⟩ | ⟨rfl, hJx3⟩)
   ·have HJ3 := hid hJ3
    have hbx3 : W3.cell? ⟨Bs, 0, none⟩ = some (.string s) := (hk3.cell (p := ⟨Bs, 0, none⟩) (by simp)).trans hbx
    have HK3 := hid (HNX.out.trans hk3)
    have hy32 : (pushN y : Int) ≤ 32 := by have := pushN_le y; omega
    have hy0 : (0 : Int) ≤ (pushN y : Int) := by omega
    have hpm : (p : Int) < 1000000 := by have := HS.out; omega
    have HKK := hid (show (p : Int) + (1 + (pushN y : Int)) = ((p + 1 + pushN y : Nat) : Int) by omega)
    clear hJ3 hk3 hbx
    gi_wp2_with fail
    refine ⟨free_wide.fn _, (callsIn_free free_wide (HPS.out _)).mono ?_⟩
    rintro _ w5 ⟨rfl, hw⟩
    rw [hw]
    clear hw w5
    gi_wp2_with fail
    skip
    case roundEnd =>
     refine ⟨⟨k + 1, by have := HK.out.1; omega, by rw [HN.out]; simp; omega, HJ3.out, HK3.out⟩, ?_⟩
     have := HK.out.2.2
     simp only [intOf]
     omega
   ·gi_wp2
    refine bodyPost_ret (results_none rfl _ _ _) rfl ?_
    exact ⟨⟨_, rfl⟩, .inr ⟨k, HK.out.1, hJx3⟩⟩
  ·obtain rfl : k = numP c := by omega
   have hp1 : ¬ nthP c (numP c) < s.size := by rw [← hsz]; exact fun h => hlt ((HP.out.2.1 (Nat.le_refl _)).2 h)
   have hbx : wr.cell? ⟨Bs, 0, none⟩ = some (.string s) := (hnx.cell (p := ⟨Bs, 0, none⟩) (by simp)).trans hBs'
   have HJ := hid hJs
   generalize nthP c (numP c) = p at *
   have p0 : (0 : Int) ≤ (p : Int) := by omega
   have p1 : ¬ (p : Int) < (s.size : Int) := by omega
   clear hlt hp1 hJs hY h0 hnx hBs'
   gi_wp2
   go_end0
   exact ⟨⟨_, rfl⟩, .inl HJ.out⟩
theorem index_line : ∀ (l : List UInt8), (Lib.indexByte l 10 = -1 ∧ line1 l = l ∧ lines2 l = []) ∨ ∃ i : Nat, Lib.indexByte l 10 = (i : Int) ∧ i < l.length ∧ line1 l = l.take (i + 1) ∧ lines2 l = l.drop (i + 1)
 | [] => .inl ⟨rfl, rfl, rfl⟩
 | a :: r => by
  unfold line1 lines2 Lib.indexByte
  by_cases ha : a = 10
  ·subst ha
   exact .inr ⟨0, by simp, by simp, by simp, by simp⟩
  ·have hb : (a == 10) = false := by simpa using ha
   rw [if_neg ha, if_neg ha, hb]
   rcases index_line r with ⟨e1, e2, e3⟩ | ⟨i, e1, e2, e3, e4⟩
   ·rw [e1, e2, e3]
    exact .inl ⟨by simp, rfl, rfl⟩
   ·refine .inr ⟨i + 1, ?_, by simpa using e2, by rw [e3]; rfl, by rw [e4]; rfl⟩
    rw [e1]
    have : ((i : Int) == -1) = false := by simp
    rw [this]
    simp
def SjB (b : Nat) (A X : World) : Prop := A.grownBy X (some b) ∧ ∃ c t fz, A.heap[b]? = some (.cells c t fz)
def mLn (b : Nat) (w : World) : Nat := match w.cell? ⟨b, 0, none⟩ with
 | some (.string t) => t.size
 | _ => 0
theorem World.grownBy_setCell' (w : World) (b : Nat) (v : Value) : w.grownBy (w.setCell ⟨b, 0, none⟩ v) (some b) :=
 ⟨rfl, rfl, rfl, by simp, fun i _ hi => Below.heap_setCell w ⟨b, 0, none⟩ v i (fun e => hi (congrArg some e))⟩
theorem lines_seq (n : Nat) (hn : 1 ≤ n) (Bs : Nat) (s : List UInt8) (hs : s.length ≤ 1000000) (w : World) (hBs : Has w Bs tSt #[.string ⟨s.toArray⟩]) :
  SeqC Fence.wide n Tryd.prog 63 #[.pointer (some ⟨Bs, 0, none⟩)] (fun k args _ => args = #[.string ⟨(nthL s k).toArray⟩]) (KeepsAt [Bs]) (SjB Bs) (numL s) w := by
 intro l J Jx W hW hJ _ hY h0
 have hmx : Tryd.prog.follows .mixedOrders = true := by kernel_rfl
 have h1 := hBs.below hW hBs.lt
 have HJ := hid hJ
 have HS := hid hs
 have HY := hid hY
 have HNL := hid (And.intro (@itL_ne s) (And.intro (itL_le s) (itL_cat s)))
 have HH := hid h1
 clear hJ hs hY hBs hW h1
 refine callsIn_of_wp Tryd.func63 rfl trivial ?_ rfl
 simp only [Tryd.ntmps63, List.size_toArray, List.length_cons, List.length_nil, Nat.reduceAdd, Nat.reduceSub, Array.replicate_succ, Array.replicate_zero, List.push_toArray, List.append_toArray, List.nil_append, List.cons_append]
 gi_wp2
 gi_loopw [5] (fun _ wr => ∃ k : Nat, k ≤ numL s ∧ J k wr ∧ Has wr Bs tSt #[.string ⟨(itL k s).toArray⟩]) (fun _ wr => mLn Bs wr)
 case atStart => exact ⟨0, Nat.zero_le _, h0, HH.out⟩
 case round =>
  obtain ⟨k, hk, hJs, hb⟩ := hrel
  have hsz := HNL.out.2.1 k
  have hne := HNL.out.1 hk
  have hcat := HNL.out.2.2 k
  have hnx := itL_succ k s
  have hnt : nthL s k = line1 (itL k s) := rfl
  have hYk := HY.out k #[.string ⟨(nthL s k).toArray⟩]
  rw [hnt] at hYk hcat
  obtain ⟨r, hr⟩ : ∃ r, itL k s = r := ⟨_, rfl⟩
  rw [hr] at hb hsz hne hcat hnx hYk
  have c0 := hb.cell 0 _ rfl
  have f0 := hb.frozen 0
  have c0' : wr.cell? ⟨Bs, 0, none⟩ = some (.string ⟨r.toArray⟩) := c0
  have hm : mLn Bs wr = r.length := by unfold mLn; rw [c0']; simp [ByteArray.size]
  by_cases hlt : k < numL s
  ·have hr0 : r ≠ [] := hne.1 hlt
   have hrl : 0 < r.length := List.length_pos_iff.2 hr0
   obtain ⟨cc, hcc⟩ : ∃ c, wr.heap[Bs]? = some (.cells c tSt (0, 0)) := ⟨_, hb⟩
   obtain ⟨t, ht⟩ : ∃ t : ByteArray, (⟨r.toArray⟩ : ByteArray) = t := ⟨_, rfl⟩
   have htl : t.data.toList = r := by rw [← ht]
   have hts : t.size = r.length := by rw [← ht]; simp [ByteArray.size]
   rw [ht] at hb c0 c0'
   have t0 : (0 : Int) < (t.size : Int) := by omega
   have tm : (t.size : Int) ≤ 1000000 := by have := HS.out; omega
   have HIB := hid (fun w => indexByte_any t 10 w)
   rcases index_line r with ⟨e1, e2, e3⟩ | ⟨i, e1, e2, e3, e4⟩
   ·have hi10 : Lib.indexByte t.data.toList (10 : Int).toNat.toUInt8 = -1 := by rw [htl]; exact e1
    rw [hi10] at HIB
    have hg1 : SjB Bs wr (wr.setCell ⟨Bs, 0, none⟩ (.string ⟨#[]⟩)) := ⟨World.grownBy_setCell' _ _ _, _, _, _, hcc⟩
    have hJ1 := HJ.out _ _ _ hJs hg1
    obtain ⟨fn, tmps, assign, body, hy, hR⟩ := hYk _ hlt hJ1 rfl
    rw [e2, ht] at hy
    have HR := hid hR
    have HB1 := hid (hb.set 0 (.string ⟨#[]⟩))
    have hlt2 : (lines2 r).length < r.length := lines2_lt hr0
    have HK := hid (And.intro hlt (And.intro hnx (And.intro hm (And.intro e3 hlt2))))
    clear hR hYk hJ1 hg1 hb hJs hk hlt hnx hm e3 hrl hr0 hne hcat hnt hr hsz h0 hcc c0 e1 e2 htl hts ht hi10 hlt2
    gi_wp2_with fail
    refine ⟨free_wide.fn _, (callsIn_free free_wide (HIB.out _)).mono ?_⟩
    rintro _ w5 ⟨rfl, hw⟩
    rw [hw]
    clear hw w5
    gi_wp2_with fail
    refine HR.out.mono ?_
    rintro e W3 (⟨rfl, hJ3, hk3⟩ | ⟨rfl, hJx3⟩)
    ·have HJ3 := hid hJ3
     have HB3 := hid (show Has W3 Bs tSt #[.string ⟨(itL (k + 1) s).toArray⟩] by
      rw [HK.out.2.1, HK.out.2.2.2.1]
      exact (hk3 Bs (by simp)).trans HB1.out)
     clear hJ3 hk3
     gi_wp2_with fail
     have hm3 : mLn Bs W3 = (itL (k + 1) s).length := by
      have c3 := HB3.out.cell 0 _ rfl
      have c3' : W3.cell? ⟨Bs, 0, none⟩ = some (.string ⟨(itL (k + 1) s).toArray⟩) := c3
      unfold mLn
      rw [c3']
      simp [ByteArray.size]
     case roundEnd =>
      refine ⟨⟨k + 1, HK.out.1, HJ3.out, HB3.out⟩, ?_⟩
      rw [hm3, HK.out.2.2.1, HK.out.2.1]
      exact HK.out.2.2.2.2
    ·gi_wp2_with fail
     refine bodyPost_ret (results_none rfl _ _ _) rfl ?_
     exact ⟨⟨_, rfl⟩, .inr ⟨k, HK.out.1, hJx3⟩⟩
   ·have hi10 : Lib.indexByte t.data.toList (10 : Int).toNat.toUInt8 = (i : Int) := by rw [htl]; exact e1
    rw [hi10] at HIB
    have i0 : (0 : Int) ≤ (i : Int) := by omega
    have i1 : (i : Int) + 1 ≤ (t.size : Int) := by omega
    have x1 : t.extract 0 (i + 1) = ⟨(line1 r).toArray⟩ := by rw [extract_eq, htl, e3, List.drop_zero, Nat.sub_zero]
    have x2 : t.extract (i + 1) t.size = ⟨(lines2 r).toArray⟩ := by
     rw [extract_eq, htl, e4, List.take_of_length_le (by rw [List.length_drop, hts]; exact Nat.le_refl _)]
    obtain ⟨ln, hln⟩ : ∃ ln : ByteArray, (⟨(line1 r).toArray⟩ : ByteArray) = ln := ⟨_, rfl⟩
    obtain ⟨rs, hrs⟩ : ∃ rs : ByteArray, (⟨(lines2 r).toArray⟩ : ByteArray) = rs := ⟨_, rfl⟩
    rw [hln] at x1
    rw [hrs] at x2
    have K0 := hid (fun x : Ext wr => (x.below.cell (p := ⟨Bs, 0, none⟩) hb.lt).trans c0')
    have K1 := hid (fun x : Ext wr => (hb.later x.below).frozen 0)
    have KB := hid (fun x : Ext wr => hb.later x.below)
    have KG := hid (fun x : Ext wr => show SjB Bs wr (x.w.setCell ⟨Bs, 0, none⟩ (.string rs)) from ⟨(World.grownBy.trans (b := x.w) ⟨x.below.os, x.below.tape, x.below.output, x.below.size, fun k hk _ => x.below.block k hk⟩ (World.grownBy_setCell' _ _ _)), _, _, _, hcc⟩)
    have hlt2 : (lines2 r).length < r.length := lines2_lt hr0
    have HK := hid (And.intro hlt (And.intro hnx (And.intro hm (And.intro hrs hlt2))))
    have HYK := hid (fun W1 h => hYk W1 hlt h rfl)
    rw [hln] at HYK
    have HJK := hid hJs
    clear hYk hb hJs hk hlt hnx hm hrl hr0 hne hcat hnt hr hsz h0 hcc c0 e1 e2 e3 e4 htl hts ht hi10 hlt2 hln hrs f0
    gi_wp2_with fail
    refine ⟨free_wide.fn _, (callsIn_free free_wide (HIB.out _)).mono ?_⟩
    rintro _ w5 ⟨rfl, hw⟩
    rw [hw]
    clear hw w5
    gi_wp2_with fail
    have k0 := K0.out
    have k1 := K1.out
    refine wpIn_region_mix (C := Grows _) free_wide [some true, some true, some true, some true, some true, some true, some true, some true, some true, none] hmx (by kernel_rfl) (by kernel_rfl) (grows_refl _) ?_
    simp only [headOf, tailOf]
    repeat (go_big_quiet_step (fail))
    refine wpQuiet_nil ?_
    rintro _ ⟨x, rfl⟩
    have y0 := k0 x
    have y1 := k1 x
    go_wp2_with fail
    rw [calmPost_normal]
    have hJ1 := HJ.out _ _ _ HJK.out (KG.out x)
    obtain ⟨fn, tmps, assign, body, hy, hR⟩ := HYK.out _ hJ1
    have HR := hid hR
    have HB1 := hid ((KB.out x).set 0 (.string rs))
    clear hR hJ1 y0 y1 k0 k1 x1 x2
    gi_wp2_with fail
    refine HR.out.mono ?_
    rintro e W3 (⟨rfl, hJ3, hk3⟩ | ⟨rfl, hJx3⟩)
    ·have HJ3 := hid hJ3
     have HB3 := hid (show Has W3 Bs tSt #[.string ⟨(itL (k + 1) s).toArray⟩] by
      rw [HK.out.2.1, HK.out.2.2.2.1]
      exact (hk3 Bs (by simp)).trans HB1.out)
     clear hJ3 hk3
     gi_wp2_with fail
     have hm3 : mLn Bs W3 = (itL (k + 1) s).length := by
      have c3 := HB3.out.cell 0 _ rfl
      have c3' : W3.cell? ⟨Bs, 0, none⟩ = some (.string ⟨(itL (k + 1) s).toArray⟩) := c3
      unfold mLn
      rw [c3']
      simp [ByteArray.size]
     case roundEnd =>
      refine ⟨⟨k + 1, HK.out.1, HJ3.out, HB3.out⟩, ?_⟩
      rw [hm3, HK.out.2.2.1, HK.out.2.1]
      exact HK.out.2.2.2.2
    ·gi_wp2_with fail
     refine bodyPost_ret (results_none rfl _ _ _) rfl ?_
     exact ⟨⟨_, rfl⟩, .inr ⟨k, HK.out.1, hJx3⟩⟩
  ·have hr0 : r = [] := Classical.byContradiction fun h => hlt (hne.2 h)
   subst hr0
   obtain rfl : k = numL s := by omega
   have HJ0 := hid hJs
   clear hlt hYk hcat hnx hsz hne hb hm hJs hr hnt h0
   gi_wp2
   go_end0
   exact ⟨⟨_, rfl⟩, .inl HJ0.out⟩
end
section
open Go Go.RowKit Go.Maps Go.Shelf
attribute [local go_sem] Oper.semAt_some Grows wide_fn
def lettersB : ByteArray := ⟨#[48, 49, 50, 51, 52, 53, 54, 55, 56, 57, 97, 98, 99, 100, 101, 102]⟩
def digI (u : UInt8) : Int := match digN u with | some d => (d : Int) | none => -1
theorem letters_index : ∀ n : Nat, n < 256 → Lib.indexByte lettersB.data.toList (UInt8.ofNat n) = digI (UInt8.ofNat n) := by decide +kernel
theorem digit_ret (u : UInt8) : Ret Tryd.prog 64 #[.string lettersB, .int .u8 (u.toNat : Int)] (.int .i64 (digI u)) := by
 intro w
 refine (indexByte_any lettersB (u.toNat : Int) w).mono ?_
 rintro e w' ⟨rfl, rfl⟩
 have h1 : ((u.toNat : Int)).toNat.toUInt8 = u := by simp
 have h2 := letters_index u.toNat u.toNat_lt
 rw [ofNat_toNat8] at h2
 rw [h1, h2]
 exact ⟨rfl, Below.refl _ _⟩
theorem digN_lt (u : UInt8) (d : Nat) (h : digN u = some d) : d < 16 := by
 unfold digN at h
 split at h
 ·cases h; omega
 ·split at h
  ·cases h; omega
  ·cases h
theorem pairsL_step (a b : UInt8) (r : List UInt8) : pairsL (a :: b :: r) = match digN a, digN b, pairsL r with
  | some h, some l, some t => some (UInt8.ofNat (16 * h + l) :: t)
  | _, _, _ => none := rfl
theorem or_digits : ∀ h : Nat, h < 16 → ∀ e : Nat, e < 16 → bits .or .i64 ((h : Int) * 16) (e : Int) % 256 = ((16 * h + e : Nat) : Int) := by decide +kernel
theorem row_later {w w' : World} {base n : Nat} {v : Value} {xs : List Value} (h : w.ownsRow base tB 1 v n xs) (hb : Below w.heap.size w w') : w'.ownsRow base tB 1 v n xs := by
 refine ⟨h.1, h.2.imp id ?_⟩
 rintro ⟨g, cap, cur, e1, e2, e3, e4⟩
 exact ⟨g, cap, cur, e1, e2, (hb.block g (Array.getElem?_eq_some_iff.1 e3).1).trans e3, e4⟩
theorem conv_own {W : World} {base : Nat} {v : Value} {l : List UInt8} (h : W.ownsRow base tB 1 v l.length (Lib.byteCells l)) : (convert 55 9 v).run Tryd.prog W = .ok (.string ⟨l.toArray⟩) W := by
 rcases h.2 with ⟨rfl, h0⟩ | ⟨g, cap, cur, rfl, e2, e3, e4⟩
 ·obtain rfl : l = [] := List.length_eq_zero_iff.1 h0
  rw [run_convert_bytes_string W 55 9 tB none 0 0 Tryd.underlying55 Tryd.underlying5 Tryd.underlying9]
  simp [Conv.bytesToString]
  rfl
 ·exact run_convert_bytes_back (P := Tryd.prog) W 55 9 tB ⟨g, 0, none⟩ cap l Tryd.underlying55 Tryd.underlying5 Tryd.underlying9 (fun j hj => h.cells (g := g) rfl j _ (by simp [Lib.byteCells, hj]))
theorem undigits_any (W : World) (s : ByteArray) (hs : s.size ≤ 1000000) (most : Nat) (hm : most ≤ 1000) :
  Calls Tryd.prog 67 #[.string s, .int .i64 (most : Int)] W fun e w' => e = .returned (.tuple #[.string ⟨((unhexL s.data.toList most).getD []).toArray⟩, .bool (unhexL s.data.toList most).isSome]) ∧ Below W.heap.size W w' := by
 have hmx : Tryd.prog.follows .mixedOrders = true := by kernel_rfl
 have HC := hid (fun w => cutPrefix_any s ⟨#[48, 120]⟩ w)
 obtain ⟨is, his⟩ : ∃ is, Lib.hasPrefix s.data.toList [48, 120] = is := ⟨_, rfl⟩
 obtain ⟨t, ht⟩ : ∃ t : ByteArray, (⟨(Lib.trimPrefix s.data.toList [48, 120]).toArray⟩ : ByteArray) = t := ⟨_, rfl⟩
 have e0 : (⟨#[48, 120]⟩ : ByteArray).data.toList = [48, 120] := rfl
 rw [e0, his, ht] at HC
 have HM : Hid ((is = true → t.data.toList = s.data.toList.drop 2 ∧ s.data.toList.take 2 = [48, 120]) ∧ (is = false → s.data.toList.take 2 ≠ [48, 120]) ∧ t.size ≤ 1000000) := by
  have hsl : s.data.toList.length = s.size := by rw [Array.length_toList]; rfl
  have htd : t.data.toList = Lib.trimPrefix s.data.toList [48, 120] := by rw [← ht]
  refine hid ⟨fun h => ?_, fun h => ?_, ?_⟩
  ·rw [h] at his
   have hp : [48, 120] <+: s.data.toList := List.isPrefixOf_iff_prefix.1 his
   refine ⟨by rw [htd]; unfold Lib.trimPrefix; rw [his]; rfl, ?_⟩
   exact (List.prefix_iff_eq_take.1 hp).symm
  ·intro hc
   have hp : [48, 120] <+: s.data.toList := List.prefix_iff_eq_take.2 hc.symm
   have := List.isPrefixOf_iff_prefix.2 hp
   rw [h] at his
   exact absurd (his.symm.trans this) (by simp)
  ·have e : t.size = t.data.toList.length := by rw [Array.length_toList]; rfl
   rw [e, htd]
   unfold Lib.trimPrefix
   split
   ·rw [List.length_drop]; omega
   ·omega
 have HR := hid (show ∀ x, unhexL s.data.toList most = x → unhexL s.data.toList most = x from fun _ h => h)
 cases is
 ·have hu : unhexL s.data.toList most = none := by unfold unhexL; rw [if_neg (fun h => HM.out.2.1 rfl h.1)]
  rw [hu]
  clear hu his ht e0
  go_enter Tryd.func67, Tryd.ntmps67
  go_wp2_with (go_at_call 76; refine (HC.out _).mono ?_; rintro _ w1 ⟨rfl, hw⟩; rw [hw]; clear hw w1)
  go_ret2
  exact ⟨rfl, Below.refl _ _⟩
 ·obtain ⟨hd, htk⟩ := HM.out.1 rfl
  obtain ⟨N, hN⟩ : ∃ N, t.size = N := ⟨_, rfl⟩
  have hlen : t.data.toList.length = N := by rw [← hN, Array.length_toList]; rfl
  have hu : unhexL s.data.toList most = if N % 2 = 0 ∧ N ≤ 2 * most then pairsL t.data.toList else none := by
   unfold unhexL
   rw [← hd, hlen]
   by_cases hc : N % 2 = 0 ∧ N ≤ 2 * most
   ·rw [if_pos hc, if_pos ⟨htk, hc⟩]
   ·rw [if_neg hc, if_neg (fun h => hc h.2)]
  rw [hu]
  have n0 : (0 : Int) ≤ (N : Int) := by omega
  have n1 : (N : Int) ≤ 1000000 := by have := HM.out.2.2; omega
  have m0 : (0 : Int) ≤ (most : Int) := by omega
  have m1 : (most : Int) ≤ 1000 := by omega
  clear hu his ht e0 hd htk
  by_cases hodd : N % 2 = 0
  ·by_cases hbig : N ≤ 2 * most
   ·have c1 : (N : Int) % 2 = 0 := by omega
    have c2 : ¬ (2 : Int) * (most : Int) < (N : Int) := by omega
    rw [if_pos ⟨hodd, hbig⟩]
    have HL := hid hlen
    have HOB := hid (And.intro hodd (And.intro hbig hN))
    clear hodd hbig
    obtain ⟨i0, hi, hz0, hz1, hz2⟩ := info_parts infoB8
    have HAP := hid (fun (w : World) (v : Value) (n : Nat) (xs : List Value) (hw : W.heap.size ≤ w.heap.size) (h : w.ownsRow W.heap.size tB 1 v n xs) (hn : n ≤ 1000000) (z : Int) => run_append_own (P := Tryd.prog) (w.alloc (.cells #[.int .u8 z] tB)) W.heap.size 55 55 tB i0 (.int .u8 0) 1 1 Tryd.underlying55 hi hz0 hz1 hz2 rfl (by decide) v n xs (h.alloc _) ⟨w.heap.size, 0, none⟩ 1 1 [.int .u8 z] rfl (cell_one_new _ _ _) (by simp [Value.oneCell']) (by unfold maxLen; omega) (by omega) (by simp; omega))
    clear hi hz0 hz1 hz2 hlen
    go_enter Tryd.func67, Tryd.ntmps67
    go_wp2_with (go_at_call 76; refine (HC.out _).mono ?_; rintro _ w1 ⟨rfl, hw⟩; rw [hw]; clear hw w1)
    go_loopw [7, 8] (fun ov i wr => ∃ p l, p ≤ N ∧ p % 2 = 0 ∧ i = .int .i64 (p : Int) ∧ pairsL t.data.toList = (pairsL (t.data.toList.drop p)).map (l ++ ·) ∧ 2 * l.length = p ∧ wr.ownsRow W.heap.size tB 1 ov l.length (Lib.byteCells l) ∧ Below W.heap.size W wr) (fun _ i _ => N + 2 - (intOf i).toNat)
    case atStart => exact ⟨0, [], Nat.zero_le _, rfl, rfl, by simp, rfl, World.ownsRow_nil _ _ _ _, Below.refl _ _⟩
    case round =>
     obtain ⟨p, l, hp, hp2, rfl, hpl, hll, hrow, hq⟩ := hrel
     obtain ⟨ov, hov⟩ : ∃ ov, ov = u7 := ⟨_, rfl⟩
     subst hov
     by_cases hlt : p < N
     ·have hN2 : N % 2 = 0 := HOB.out.1
      have hp1 : p + 1 < t.size := by rw [HOB.out.2.2]; omega
      have hp0 : p < t.size := by omega
      have p0 : (0 : Int) ≤ (p : Int) := by omega
      have p1 : (p : Int) < (N : Int) := by omega
      have p2 : (p : Int) + 1 < (N : Int) := by have := HOB.out.2.2; omega
      have p3 : (p : Int) + 1 < (t.size : Int) := by omega
      have p4 : (0 : Int) ≤ (p : Int) + 1 := by omega
      have D1 := digit_ret t[p]
      have D2 := digit_ret t[p + 1]
      unfold lettersB at D1 D2
      have hdr : t.data.toList.drop p = t[p] :: t[p + 1] :: t.data.toList.drop (p + 2) := by
       rw [List.drop_eq_getElem_cons (by rw [Array.length_toList]; exact hp0), List.drop_eq_getElem_cons (by rw [Array.length_toList]; exact hp1)]
       rfl
      rw [hdr, pairsL_step] at hpl
      have HRW := hid (And.intro hrow (And.intro hq (And.intro hll (And.intro hp2 hlt))))
      have HPL := hid hpl
      clear hrow hq hll hp2 hlt hdr hpl hN2 hN
      go_wp2_with fail
      refine wp_region_quietL (C := Grows _) hmx (by kernel_rfl) (grows_refl _) ?_
      repeat (go_big_quiet_step (first | (with_reducible exact Ret.at D1 _) | (with_reducible exact Ret.at D2 _)))
      refine wpQuiet_nil ?_
      rintro _ ⟨x, rfl⟩
      have HXB := hid x.below
      clear D1 D2
      cases h1 : digN t[p] with
      | none =>
       have e1 : digI t[p] = -1 := by unfold digI; rw [h1]
       have hres : pairsL t.data.toList = none := by have h := HPL.out; rw [h1] at h; exact h
       have HRS := hid hres
       rw [e1]
       clear e1 hres h1
       go_wp2_with fail
       go_ret2
       rw [HRS.out]
       exact ⟨rfl, HRW.out.2.1.trans (HXB.out.mono HRW.out.2.1.size)⟩
      | some h =>
       have e1 : digI t[p] = (h : Int) := by unfold digI; rw [h1]
       have h16 : h < 16 := digN_lt _ _ h1
       have HPL2 := hid (show _ = _ from HPL.out)
       rw [h1] at HPL2
       have h0I : ¬ (h : Int) < 0 := by omega
       have h0I' : (0 : Int) ≤ (h : Int) := by omega
       have h16I : (h : Int) < 16 := by omega
       rw [e1]
       cases h2 : digN t[p + 1] with
       | none =>
        have e2 : digI t[p + 1] = -1 := by unfold digI; rw [h2]
        have hres : pairsL t.data.toList = none := by have h := HPL2.out; rw [h2] at h; exact h
        have HRS := hid hres
        rw [e2]
        clear e1 e2 hres h1 h2
        go_wp2_with fail
        go_ret2
        rw [HRS.out]
        exact ⟨rfl, HRW.out.2.1.trans (HXB.out.mono HRW.out.2.1.size)⟩
       | some e =>
        have e2 : digI t[p + 1] = (e : Int) := by unfold digI; rw [h2]
        have e16 : e < 16 := digN_lt _ _ h2
        have e0I : ¬ (e : Int) < 0 := by omega
        have e0I' : (0 : Int) ≤ (e : Int) := by omega
        have e16I : (e : Int) < 16 := by omega
        rw [h2] at HPL2
        rw [e2]
        have H16 := hid (And.intro h16 e16)
        clear e1 e2 h1 h2 HPL h16 e16
        obtain ⟨hrow, hq, hll, hp2, hlt⟩ := HRW.out
        obtain ⟨v', w2, hr, hown, hgrow, _⟩ := HAP.out x.w ov l.length _ (Nat.le_trans hq.size HXB.out.size) (row_later hrow HXB.out) (by have := HM.out.2.2; omega) (bits .or .i64 ((h : Int) * 16) (e : Int) % 256)
        rw [or_digits h H16.out.1 e H16.out.2] at hown
        have hby : Lib.byteCells l ++ [.int .u8 ((16 * h + e : Nat) : Int)] = Lib.byteCells (l ++ [UInt8.ofNat (16 * h + e)]) := (byteCells_snoc l (16 * h + e) (by have := H16.out; omega)).symm
        rw [hby] at hown
        have HW := hid (And.intro hown (((hq.trans (HXB.out.mono hq.size)).alloc (Nat.le_trans hq.size HXB.out.size) (.cells #[.int .u8 (bits .or .i64 ((h : Int) * 16) (e : Int) % 256)] tB)).grown hgrow (by have h1 := hq.size; have h2 := HXB.out.size; simp; omega) (fun k e => (hrow.lt k e).1)))
        clear hown hgrow hrow hq hll hp2 hlt hby
        go_wp2_with (at_builtin; refine wpList_append_runB rfl (.tmp 52) (.tmp 58) _ _ rfl _ _ _ rfl rfl hr ?_)
        have hres : pairsL t.data.toList = (pairsL (t.data.toList.drop (p + 2))).map ((l ++ [UInt8.ofNat (16 * h + e)]) ++ ·) := by
         have h1 := HPL2.out
         rw [h1]
         cases pairsL (t.data.toList.drop (p + 2)) <;> simp
        obtain ⟨hq1, hq2, hq3, hq4, hq5⟩ := HRW.out
        have hN2 : N % 2 = 0 := HOB.out.1
        refine ⟨⟨_, _, _, _, ⟨p + 2, by omega, by omega, rfl, _, hres, by simp; omega, by rw [List.length_append]; exact HW.out.1, HW.out.2⟩, rfl, rfl, rfl, congrArg (Value.int .i64) (by omega)⟩, ?_⟩
        simp only [intOf]
        omega
     ·obtain rfl : p = N := by omega
      have hcv := conv_own hrow
      have hres : pairsL t.data.toList = some l := by
       rw [hpl, List.drop_of_length_le (by rw [HL.out]; exact Nat.le_refl _)]
       simp [pairsL]
      have HRS := hid hres
      have HQ := hid hq
      have p1 : ¬ (p : Int) < (p : Int) := by omega
      clear hpl hrow hq hres hlt hp hp2
      go_wp2_with fail
      go_ret2
      rw [HRS.out]
      exact ⟨rfl, HQ.out⟩
   ·have c1 : (N : Int) % 2 = 0 := by omega
    have c2 : (2 : Int) * (most : Int) < (N : Int) := by omega
    rw [if_neg (fun h => hbig h.2)]
    clear hodd hbig
    go_enter Tryd.func67, Tryd.ntmps67
    go_wp2_with (go_at_call 76; refine (HC.out _).mono ?_; rintro _ w1 ⟨rfl, hw⟩; rw [hw]; clear hw w1)
    go_ret2
    exact ⟨rfl, Below.refl _ _⟩
  ·have c1 : (N : Int) % 2 = 1 := by omega
   rw [if_neg (fun h => hodd h.1)]
   clear hodd
   go_enter Tryd.func67, Tryd.ntmps67
   go_wp2_with (go_at_call 76; refine (HC.out _).mono ?_; rintro _ w1 ⟨rfl, hw⟩; rw [hw]; clear hw w1)
   go_ret2
   exact ⟨rfl, Below.refl _ _⟩
def readV : Sum Nat (List UInt8) → Value
 | .inl e => .tuple #[.string ⟨#[]⟩, .int .i64 (e : Int)]
 | .inr l => .tuple #[.string ⟨l.toArray⟩, .int .i64 0]
theorem conv_has {W : World} {b op : Nat} (ho : op < 256) (h : Has W b tB #[.int .u8 (op : Int)]) : (convert 55 9 (.slice (some ⟨b, 0, none⟩) 1 1)).run Tryd.prog W = .ok (.string ⟨#[UInt8.ofNat op]⟩) W := by
 have e : (UInt8.ofNat op).toNat = op := by simp; omega
 have h := run_convert_bytes_back (P := Tryd.prog) W 55 9 tB ⟨b, 0, none⟩ 1 [UInt8.ofNat op] Tryd.underlying55 Tryd.underlying5 Tryd.underlying9 (fun j hj => by
  obtain rfl : j = 0 := by simpa using hj
  have h1 := h.cell 0 _ rfl
  have h2 : (⟨b, 0, none⟩ : Addr).add 0 = ⟨b, 0, none⟩ := by simp [Addr.add]
  rw [h2, h1]
  simp [e])
 simpa using h
def URd (V : World) (op : Nat) (f : Nat → Bool) (g : Nat → Value) (y : World) : Prop :=
 Below V.heap.size V y ∧ (f 1 = true → ∃ b, g 1 = .slice (some ⟨b, 0, none⟩) 1 1 ∧ Has y b tB #[.int .u8 (op : Int)])
theorem cutF_len : ∀ l, (cutF l).length ≤ l.length
 | [] => Nat.le_refl _
 | a :: r => by
  have := cutF_len r
  unfold cutF
  split
  ·simp
  ·simp; omega
theorem cutR_len : ∀ l, (cutR l).length ≤ l.length
 | [] => Nat.le_refl _
 | a :: r => by
  have := cutR_len r
  unfold cutR
  split
  ·simp
  ·simp; omega
theorem opOf_lt {w : List UInt8} {op : Nat} (h : opOf w = some op) : op < 256 := by
 have := List.mem_of_find?_eq_some h
 exact List.mem_range.1 this
theorem pairsL_len : ∀ (l t : List UInt8), pairsL l = some t → 2 * t.length = l.length
 | [], t, h => by simp [pairsL] at h; subst h; rfl
 | [_], t, h => by simp [pairsL] at h
 | a :: b :: r, t, h => by
  rw [pairsL_step] at h
  cases h1 : digN a <;> cases h2 : digN b <;> cases h3 : pairsL r <;> rw [h1, h2, h3] at h <;> simp at h
  subst h
  have := pairsL_len r _ h3
  simp
  omega
theorem unhexL_len {s : List UInt8} {most : Nat} {t : List UInt8} (h : unhexL s most = some t) : t.length ≤ most := by
 unfold unhexL at h
 split at h
 ·rename_i hc
  have := pairsL_len _ _ h
  omega
 ·cases h
theorem read_any (W : World) (S : Nat) (hS : MapS W S 256 opOf) (s : ByteArray) (hs : s.size ≤ 1000000) (last : Bool) :
  Calls Tryd.prog 42 #[.map (some S), .string s, .bool last] W fun e w' => e = .returned (readV (readL s.data.toList last)) ∧ Below W.heap.size W w' := by
 have hmx : Tryd.prog.follows .mixedOrders = true := by kernel_rfl
 have HC := hid (cut_any W s hs)
 unfold cutVO at HC
 obtain ⟨L, hL⟩ : ∃ L, s.data.toList = L := ⟨_, rfl⟩
 have hLn : L.length ≤ 1000000 := by rw [← hL, Array.length_toList]; exact hs
 rw [hL] at HC ⊢
 obtain ⟨op, hop⟩ : ∃ op, (opOf (cutF L)).getD 0 = op := ⟨_, rfl⟩
 obtain ⟨fd, hfd⟩ : ∃ fd, (opOf (cutF L)).isSome = fd := ⟨_, rfl⟩
 have ho : op < 256 := by
  rw [← hop]
  cases h : opOf (cutF L) with
  | none => simp
  | some x => exact opOf_lt h
 have HRL : Hid (readL L last = if fd = false then .inl 42 else if pushN op = 0 then (if cutM L then .inl 3 else .inr [UInt8.ofNat op]) else match unhexL (cutR L) (pushN op) with
   | none => .inl 3
   | some t => if t.length < pushN op ∧ last = false then .inl 3 else .inr (UInt8.ofNat op :: t)) := by
  refine hid ?_
  unfold readL
  cases h : opOf (cutF L) with
  | none =>
   rw [h] at hfd
   have hf : fd = false := by rw [← hfd]; rfl
   rw [hf, if_pos rfl]
  | some x =>
   rw [h] at hfd hop
   have hf : fd = true := by rw [← hfd]; rfl
   have hx : x = op := by rw [← hop]; rfl
   subst hx
   rw [hf]
   simp only [Bool.true_eq_false, if_false]
   rfl
 have HLK := hid (fun w (h : MapS w S 256 opOf) => lookS_any w S 256 opOf h (cutF L) (Nat.le_trans (cutF_len L) hLn))
 have hlk : lookSV opOf (cutF L) = .tuple #[.int .u8 (op : Int), .bool fd] := by unfold lookSV; rw [hop, hfd]
 rw [hlk] at HLK
 have HU := hid (fun w => undigits_any w ⟨(cutR L).toArray⟩ (by rw [ByteArray.size, List.size_toArray]; exact Nat.le_trans (cutR_len L) hLn) (pushN op) (Nat.le_trans (pushN_le op) (by decide)))
 have e0 : (⟨(cutR L).toArray⟩ : ByteArray).data.toList = cutR L := rfl
 rw [e0] at HU
 obtain ⟨fst, hfst⟩ : ∃ x : ByteArray, (⟨(cutF L).toArray⟩ : ByteArray) = x := ⟨_, rfl⟩
 obtain ⟨rst, hrst⟩ : ∃ x : ByteArray, (⟨(cutR L).toArray⟩ : ByteArray) = x := ⟨_, rfl⟩
 obtain ⟨more, hmore⟩ : ∃ x, cutM L = x := ⟨_, rfl⟩
 obtain ⟨ud, hud⟩ : ∃ x, unhexL (cutR L) (pushN op) = x := ⟨_, rfl⟩
 rw [hfst, hrst, hmore] at HC
 rw [hfst] at HLK
 rw [hrst, hud] at HU
 rw [hmore, hud] at HRL
 obtain ⟨pn, hpn⟩ : ∃ x, pushN op = x := ⟨_, rfl⟩
 have HUL := hid (show ∀ t, ud = some t → t.length ≤ pushN op from fun t ht => unhexL_len (hud.trans ht))
 have HPN := hid (fun w => pushed_any w op ho)
 have hp32 : pn ≤ 32 := by rw [← hpn]; exact pushN_le op
 rw [hpn] at HU HRL HPN HUL
 have HO := hid ho
 have HS := hid hS
 clear hop hfd hlk e0 hfst hrst hmore hud hpn hS hL hLn ho hs
 go_enter Tryd.func42, Tryd.ntmps42
 go_wp2_with fail
 refine HC.out.mono ?_
 rintro _ w1 ⟨rfl, q1⟩
 have S1 := HS.out.below q1 HS.out.lt
 have Q1 := hid q1
 have HL1 := hid (HLK.out w1 S1)
 clear q1 S1
 go_wp2_with fail
 refine HL1.out.mono ?_
 rintro _ w2 ⟨rfl, hw⟩
 rw [hw]
 clear hw w2
 go_wp2_with fail
 refine wp_region_ghost (c := [some (.int .u8 (op : Int)), none, some (.string ⟨#[UInt8.ofNat op]⟩), some (.int .u8 (op : Int)), some (.int .i64 (pn : Int)), some (.string ⟨#[UInt8.ofNat op]⟩), some (.int .i64 (pn : Int))]) (deps := [[], [0], [0, 1], [], [3], [0, 1, 2, 3, 4], [0, 1, 2, 3, 4, 5]]) (U := URd w1 op) hmx (by kernel_rfl) (by kernel_rfl)
  (fun f g y y' ⟨h1, h2⟩ hb => ⟨h1.trans (hb.mono h1.size), fun hf => by obtain ⟨b, e1, e2⟩ := h2 hf; exact ⟨b, e1, e2.later hb⟩⟩)
  (fun f f' g g' y h ⟨h1, h2⟩ => ⟨h1, fun hf => by have := h 1 rfl; rw [← this.1] at hf; rw [← this.2]; exact h2 hf⟩)
  ⟨(Below.refl _ w1).drew, fun h => by cases h⟩ ?_
 rintro f g y hU0 _
 have hU := hid hU0
 clear hU0
 refine GW.known _ rfl (fun hd hf => ?_) ?_
 ·go_wp2
  exact ⟨rfl, rfl, Below.refl _ _⟩
 simp only [Act.put, sT, sS, sZ]
 refine GW.open rfl (fun hd hf => ?_) ?_
 ·have K := hid (show URd w1 op (upd f 1 true) (upd g 1 (.slice (some ⟨y.heap.size, 0, none⟩) 1 1)) (y.alloc (.cells #[.int .u8 (op : Int)] tB)) from ⟨hU.out.1.trans (((Below.refl _ y).alloc (Nat.le_refl _) _).mono hU.out.1.size), fun _ => ⟨_, upd_self _ _ _, Has.new _ _ _⟩⟩)
  go_wp2
  exact ⟨rfl, K.out⟩
 simp only [Act.put, sT, sS, sZ]
 refine GW.known _ rfl (fun hd hf => ?_) ?_
 ·obtain ⟨b, e1, hb⟩ := hU.out.2 (hd 1 (by decide))
  have hcv := conv_has HO.out hb
  rw [e1]
  clear hb e1
  go_wp2
  exact ⟨rfl, rfl, Below.refl _ _⟩
 simp only [Act.put, sT, sS, sZ]
 refine GW.known _ rfl (fun hd hf => ?_) ?_
 ·go_wp2
  exact ⟨rfl, rfl, Below.refl _ _⟩
 simp only [Act.put, sT, sS, sZ]
 refine GW.known _ rfl (fun hd hf => ?_) ?_
 ·go_wp2_with fail
  refine (HPN.out _).mono ?_
  rintro _ w6 ⟨rfl, hw⟩
  rw [hw]
  clear hw w6
  go_wp2
  exact ⟨rfl, rfl, Below.refl _ _⟩
 simp only [Act.put, sT, sS, sZ]
 refine GW.known _ rfl (fun hd hf => ?_) ?_
 ·go_wp2
  exact ⟨rfl, rfl, Below.refl _ _⟩
 simp only [Act.put, sT, sS, sZ]
 refine GW.known _ rfl (fun hd hf => ?_) ?_
 ·go_wp2
  exact ⟨rfl, rfl, Below.refl _ _⟩
 simp only [Act.put, sT, sS, sZ]
 refine GW.nil (fun hall => ?_)
 have QY := hid (Q1.out.trans (hU.out.1.mono Q1.out.size))
 clear hU Q1 HC HL1 HLK HS
 cases fd
 ·have HR2 := hid (HRL.out.trans (if_pos rfl))
  clear HRL HU
  go_wp2_with fail
  go_ret2
  rw [HR2.out]
  exact ⟨rfl, QY.out⟩
 ·have HR2 := hid (HRL.out.trans (if_neg (by decide)))
  clear HRL
  by_cases hp0 : pn = 0
  ·have HR3 := hid (HR2.out.trans (if_pos hp0))
   subst hp0
   clear HR2 HU
   cases more
   ·go_wp2_with fail
    go_ret2
    rw [HR3.out]
    exact ⟨rfl, QY.out⟩
   ·go_wp2_with fail
    go_ret2
    rw [HR3.out]
    exact ⟨rfl, QY.out⟩
  ·have HR3 := hid (HR2.out.trans (if_neg hp0))
   have p0 : ¬ (pn : Int) = 0 := by omega
   have p1 : (0 : Int) ≤ (pn : Int) := by omega
   clear HR2 hp0
   go_wp2_with fail
   refine (HU.out _).mono ?_
   rintro _ w7 ⟨rfl, q7⟩
   have Q7 := hid (QY.out.trans (q7.mono QY.out.size))
   clear q7 HU QY
   cases ud with
   | none =>
    go_wp2_with fail
    go_ret2
    rw [HR3.out]
    exact ⟨rfl, Q7.out⟩
   | some t =>
    obtain ⟨tb, htb⟩ : ∃ x : ByteArray, (⟨((some t).getD []).toArray⟩ : ByteArray) = x := ⟨_, rfl⟩
    have HTB := hid (show (⟨t.toArray⟩ : ByteArray) = tb from htb)
    obtain ⟨N, hN⟩ : ∃ N, tb.size = N := ⟨_, rfl⟩
    have hNt : t.length = N := by rw [← hN, ← htb]; simp [ByteArray.size]
    have e1 : (some t).isSome = true := rfl
    rw [htb, e1]
    have n0 : (0 : Int) ≤ (N : Int) := by omega
    by_cases hlt : N < pn
    ·have hltI : (N : Int) < (pn : Int) := by omega
     cases last
     ·have HR4 := hid (HR3.out.trans (if_pos ⟨by rw [hNt]; exact hlt, rfl⟩))
      clear HR3 htb e1 hlt hNt
      go_wp2_with fail
      go_ret2
      rw [HR4.out]
      exact ⟨rfl, Q7.out⟩
     ·have HR4 := hid (HR3.out.trans (if_neg (fun h => by cases h.2)))
      have hcat : ¬ 9223372036854775807 < 1 + tb.size := by omega
      have HCT := hid (show (ByteArray.mk #[UInt8.ofNat op]) ++ tb = ⟨(UInt8.ofNat op :: t).toArray⟩ by rw [← HTB.out]; exact catB [UInt8.ofNat op] t)
      clear HR3 htb e1 hlt hNt HTB
      go_wp2_with fail
      go_ret2
      rw [HR4.out]
      exact ⟨congrArg (fun x => Ending.returned (.tuple #[.string x, .int .i64 0])) HCT.out, Q7.out⟩
    ·have hltI : ¬ (N : Int) < (pn : Int) := by omega
     have HR4 := hid (HR3.out.trans (if_neg (fun h => hlt (by rw [← hNt]; exact h.1))))
     have hul := HUL.out t rfl
     have hcat : ¬ 9223372036854775807 < 1 + tb.size := by omega
     have HCT := hid (show (ByteArray.mk #[UInt8.ofNat op]) ++ tb = ⟨(UInt8.ofNat op :: t).toArray⟩ by rw [← HTB.out]; exact catB [UInt8.ofNat op] t)
     clear HR3 htb e1 hlt hNt HTB hul
     go_wp2_with fail
     go_ret2
     rw [HR4.out]
     exact ⟨congrArg (fun x => Ending.returned (.tuple #[.string x, .int .i64 0])) HCT.out, Q7.out⟩
end
section
open Go Go.RowKit Go.Maps Go.Shelf
attribute [local go_sem] Oper.semAt_some wide_fn
theorem builder_ownO {T e : TypeId} {n b : Nat} {bs : List Value} {X Y : World} {row : Option Nat} (h : Lib.IsBuilderF T e n b bs X) (hg : X.grownBy Y row) (hr : ∀ r, row = some r → ∃ o : Obj, X.heap[r]? = some o ∧ o.isCells = false) : Lib.IsBuilderF T e n b bs Y := by
 have key : ∀ (k : Nat) (c : Array Value) (t : TypeId) (fz : Nat × Nat), X.heap[k]? = some (.cells c t fz) → Y.heap[k]? = some (.cells c t fz) := fun k c t fz hk => by
  refine (hg.block k (Array.getElem?_eq_some_iff.1 hk).1 (fun e => ?_)).trans hk
  obtain ⟨o, ho, hc⟩ := hr k e.symm
  rw [hk] at ho
  cases ho
  cases hc
 have go : ∀ p, Lib.BuilderAtF T e n b p bs X → Lib.BuilderAtF T e n b p bs Y := fun p ⟨hB, v, hb, ⟨hl, hv⟩, hne⟩ =>
  ⟨hB, v, key _ _ _ _ hb, ⟨hl, hv.imp id (fun ⟨g, cap, cur, fz, e1, e2, e3, e4⟩ => ⟨g, cap, cur, fz, e1, e2, key _ _ _ _ e3, e4⟩)⟩, hne⟩
 exact h.imp (go _) (go _)
theorem builder_later {T e : TypeId} {n b : Nat} {bs : List Value} {X Y : World} (h : Lib.IsBuilderF T e n b bs X) (hb : Below X.heap.size X Y) : Lib.IsBuilderF T e n b bs Y := builder_ownO h (grown_of_below hb none) (fun r e => by cases e)
theorem ok_below {e : TypeId} {b : Option Nat} {X Y : World} (h : Below X.heap.size X Y) : Lib.OthersKept e b X Y := fun k _ hk _ _ => (h.block k (Array.getElem?_eq_some_iff.1 hk).1).trans hk
theorem ok_own {e : TypeId} {b : Option Nat} {V X Y : World} {row : Option Nat} {n : Nat} (h : Lib.OthersKept e b V X) (hn : V.heap.size ≤ n) (hg : X.grownBy Y row) (hr : ∀ r, row = some r → n ≤ r) : Lib.OthersKept e b V Y := fun k o hk h1 h2 => by
 have h3 := h k o hk h1 h2
 refine (hg.block k (Array.getElem?_eq_some_iff.1 h3).1 (fun e => ?_)).trans h3
 have := hr k e.symm
 have := (Array.getElem?_eq_some_iff.1 hk).1
 omega
theorem below_ownO {A X : World} {w : World} {m : Nat} {row : Option Nat} {n : Nat} (h : Below m w A) (hg : A.grownBy X row) (hm : m ≤ A.heap.size) (hn : m ≤ n) (hr : ∀ r, row = some r → n ≤ r) : Below m w X := h.grown hg hm (fun k e => Nat.le_trans hn (hr k e))
theorem Has.others {V X : World} {B b : Nat} {t : TypeId} {cs : Array Value} (h : Has V B t cs) (ok : Lib.OthersKept 5 (some b) V X) (hne : B ≠ b) (ht : t ≠ 5) : Has X B t cs := ok B _ h (fun e => hne (Option.some.inj e)) (fun c fz e => ht (by cases e; rfl))
theorem MapB.others {V X : World} {B n b : Nat} {f : Nat → Option Inf} (h : MapB V B n f) (ok : Lib.OthersKept 5 (some b) V X) (hne : B ≠ b) : MapB X B n f := by
 obtain ⟨D, ⟨es, clock, h1, h3⟩, h2⟩ := h
 exact ⟨D, ⟨es, clock, ok B _ h1 (fun e => hne (Option.some.inj e)) (fun c fz e => by cases e), h3⟩, h2⟩
theorem builderB_lt {T e : TypeId} {n b : Nat} {bs : List Value} {X : World} (h : Lib.IsBuilderF T e n b bs X) : b < X.heap.size := by
 rcases h with ⟨_, v, hb, _⟩ | ⟨_, v, hb, _⟩ <;> exact (Array.getElem?_eq_some_iff.1 hb).1
theorem below_putK {n : Nat} {w : World} {D : Nat} {o : Obj} (hD : n ≤ D) : Below n w (w.putObj D o) := ⟨rfl, rfl, rfl, by simp [World.putObj], fun k hk => World.putObj_heap_other (by omega)⟩
theorem places_mk (W : World) (s : ByteArray) : Calls Tryd.prog 30 #[.string s] W fun e w' => e = .returned (.func (.func 58) #[] #[.pointer (some ⟨W.heap.size, 0, none⟩)]) ∧ w' = W.alloc (.cells #[.string s] tSt) := by
 go_enter Tryd.func30, Tryd.ntmps30
 go_wp2
 go_ret
 exact ⟨rfl, rfl⟩
theorem places_take' (c : List UInt8) {k : Nat} (hk : k < numP c) : (placesL c).take (k + 1) = (placesL c).take k ++ [nthP c k] := placesL_take c hk
def TxSt (V : World) (b : Nat) (c : List UInt8) (k : Nat) (X : World) : Prop :=
 Lib.IsBuilderF 64 5 b b (Lib.byteCells (((placesL c).take k).flatMap (lineL c))) X ∧ Lib.OthersKept 5 (some b) V X ∧ Below b V X
theorem TxSt.own {V : World} {b : Nat} {c : List UInt8} (hb : b ≤ V.heap.size) : OwnFrom V.heap.size (fun k X => TxSt V b c k X) := by
 rintro k X Y row ⟨h1, h2, h3⟩ hg hr
 exact ⟨builder_ownO h1 hg (fun r e => (hr r e).2), ok_own h2 (Nat.le_refl _) hg (fun r e => (hr r e).1), below_ownO h3 hg (Nat.le_trans hb h3.size) hb (fun r e => (hr r e).1)⟩
theorem lineL_len (c : List UInt8) (p : Nat) : (lineL c p).length ≤ 100 := by
 unfold lineL
 have h1 := title_len (byteAt c p) (byteAt_lt c p)
 have h2 := pushN_le (byteAt c p)
 have h3 : (behindL c p (pushN (byteAt c p))).length ≤ pushN (byteAt c p) := by unfold behindL; rw [List.length_take]; exact Nat.min_le_left _ _
 split
 ·simp only [List.length_append, List.length_cons, List.length_nil, hexO_len]; omega
 ·simp only [List.length_append, List.length_cons, List.length_nil]; omega
theorem flat_len {α : Type} (f : α → List UInt8) (m : Nat) (hf : ∀ x, (f x).length ≤ m) : ∀ l : List α, (l.flatMap f).length ≤ m * l.length
 | [] => by simp
 | a :: r => by
  have h1 := hf a
  have h2 := flat_len f m hf r
  rw [List.flatMap_cons, List.length_append, List.length_cons, Nat.mul_succ]
  omega
theorem text_code (W : World) (s : ByteArray) (hs : s.size ≤ 10000) : Calls Tryd.prog 17 #[.string s] W fun e w' => e = .returned (.string ⟨(textL s.data.toList).toArray⟩) ∧ Below W.heap.size W w' := by
 refine (callsIn_wide (n := 6)).1 ?_
 obtain ⟨c, hc⟩ : ∃ c, s.data.toList = c := ⟨_, rfl⟩
 have hcl : c.length = s.size := by rw [← hc, Array.length_toList]; rfl
 rw [hc]
 unfold textL
 obtain ⟨W1, hW1⟩ : ∃ W1, W.alloc (.cells #[.string s] tSt) = W1 := ⟨_, rfl⟩
 have q1 : Below W.heap.size W W1 := hW1 ▸ (Below.refl _ W).alloc (Nat.le_refl _) _
 have n1 : Has W1 W.heap.size tSt #[.string s] := hW1 ▸ Has.new _ _ _
 have Q1 := hid q1
 have N1 := hid n1
 have HS := hid hs
 have HC := hid (And.intro hc hcl)
 clear q1 n1 hs hc hcl
 unfold tSt at hW1
 refine callsIn_of_wp_marks Tryd.func17 rfl trivial ?_ rfl
 simp only [Tryd.ntmps17, List.size_toArray, List.length_cons, List.length_nil, Nat.reduceAdd, Nat.reduceSub, Array.replicate_succ, Array.replicate_zero, List.push_toArray, List.append_toArray, List.nil_append, List.cons_append]
 gi_wp2_with fail
 refine (callsIn_free free_wide (all_any _)).mono ?_
 rintro _ w2 ⟨B, rfl, hm, hBw, q2⟩
 obtain ⟨W3, hW3⟩ : ∃ W3, w2.alloc (.cells #[.map (some B)] tMB) = W3 := ⟨_, rfl⟩
 obtain ⟨W4, hW4⟩ : ∃ W4, W3.alloc (.cells #[.pointer none, .slice none 0 0] 64) = W4 := ⟨_, rfl⟩
 obtain ⟨W5, hW5⟩ : ∃ W5, W4.alloc (.cells #[.string s] tSt) = W5 := ⟨_, rfl⟩
 have q3 : Below w2.heap.size w2 W3 := hW3 ▸ (Below.refl _ w2).alloc (Nat.le_refl _) _
 have q4 : Below W3.heap.size W3 W4 := hW4 ▸ (Below.refl _ W3).alloc (Nat.le_refl _) _
 have q5 : Below W4.heap.size W4 W5 := hW5 ▸ (Below.refl _ W4).alloc (Nat.le_refl _) _
 have z3 : W3.heap.size = w2.heap.size + 1 := by rw [← hW3]; simp
 have z4 : W4.heap.size = W3.heap.size + 1 := by rw [← hW4]; simp
 have z5 : W5.heap.size = W4.heap.size + 1 := by rw [← hW5]; simp
 have n3 : Has W3 w2.heap.size tMB #[.map (some B)] := hW3 ▸ Has.new _ _ _
 have n4 : Has W4 W3.heap.size 64 #[.pointer none, .slice none 0 0] := hW4 ▸ Has.new _ _ _
 have n5 : Has W5 W4.heap.size tSt #[.string s] := hW5 ▸ Has.new _ _ _
 have q25 := (q3.trans (q4.mono q3.size)).trans (q5.mono (Nat.le_trans q3.size q4.size))
 have q15 := Q1.out.trans ((q2.trans (q25.mono q2.size)).mono Q1.out.size)
 have HM5 := hid (And.intro (hm.below q25 hm.lt) hm.lt)
 have HB1 := hid (And.intro (N1.out.later (q2.trans (q25.mono q2.size))) (show W.heap.size < w2.heap.size from Nat.lt_of_lt_of_le N1.out.lt q2.size))
 have HB3 := hid (n3.later (q4.trans (q5.mono q4.size)))
 have HB4 := hid (n4.later q5)
 have HB5 := hid n5
 have Q5 := hid q15
 have HZ := hid (And.intro z3 (And.intro z4 z5))
 have c1 := N1.out.later q2
 have b1 := ((c1.later q3).later q4).cell 0 _ rfl
 clear q2 q3 q4 q5 q25 q15 z3 z4 z5 n3 n4 n5 hm hBw c1 Q1
 unfold tMB at hW3
 unfold tSt at hW5
 gi_wp2_with fail
 have HPM := hid (places_mk W4 s)
 unfold tSt at HPM
 rw [hW5] at HPM
 refine (callsIn_free free_wide HPM.out).mono ?_
 rintro _ w5 ⟨rfl, hw⟩
 rw [hw]
 clear hw w5 HPM b1 hW5 hW4 hW3 hW1
 have HSEQ := hid (places_seq 5 (by omega) W4.heap.size s (Nat.le_trans HS.out (by decide)) W5 HB5.out.lt (HB5.out.cell 0 _ rfl))
 rw [HC.out.1] at HSEQ
 gi_wp2_with fail
 refine wpIn_rangeFunc_N1 rfl (by omega) (gf := 58) (lb := #[.pointer (some ⟨W4.heap.size, 0, none⟩)]) rfl trivial (enters_of Tryd.func58 (by kernel_rfl) rfl)
  HSEQ.out KeepsAt.trans (KeepsAt.refl _) (KeepsAt.b (by have := HZ.out; simp; omega)) (fun _ _ => rfl)
  (fun k X => TxSt W5 W3.heap.size c k X) (fun _ _ _ => False) (TxSt.own (by have := HZ.out; omega)) (fun _ => fun _ _ _ _ h => h.elim)
  ⟨.inl ⟨Nat.le_refl _, _, HB4.out, World.ownsRowF_nil _ _ _ _, by simp [Value.ownBlock]⟩, Lib.OthersKept.refl _ _ _, Below.refl _ _⟩
  (fun k => { tmps := #[.string s, .pointer (some ⟨W.heap.size, 0, none⟩), .string ⟨#[]⟩, .pointer (some ⟨w2.heap.size, 0, none⟩), .pointer (some ⟨W3.heap.size, 0, none⟩), .int .i64 (nthP c k : Int), .int .u8 (byteAt c (nthP c k) : Int), undef, .map (some B), .string s, .func (.func 58) #[] #[.pointer (some ⟨W4.heap.size, 0, none⟩)], .int .i64 (nthP c k : Int), .int .u8 (byteAt c (nthP c k) : Int), undef, undef, undef, undef, undef, undef, undef, undef, undef, undef, undef, undef, undef, undef, undef, undef, undef], defers := [] }) ?assign ?body ?done ?stop
 case assign =>
  intro l k X K _ hK
  gi_wp2
  exact hK
 case body =>
  rintro l k X hlX hkN ⟨hbld, hok, hbel⟩
  obtain ⟨p, hp⟩ : ∃ p, nthP c k = p := ⟨_, rfl⟩
  have hpc : p < c.length := by rw [← hp]; exact nthP_lt_len c hkN
  have htake : ((placesL c).take (k + 1)).flatMap (lineL c) = ((placesL c).take k).flatMap (lineL c) ++ lineL c p := by rw [places_take' c hkN, hp, List.flatMap_append]; simp
  obtain ⟨L0, hL0⟩ : ∃ L0, ((placesL c).take k).flatMap (lineL c) = L0 := ⟨_, rfl⟩
  have hlen : L0.length ≤ 2000000 := by
   rw [← hL0]
   have h1 := flat_len (lineL c) 100 (lineL_len c) ((placesL c).take k)
   have h2 : ((placesL c).take k).length ≤ c.length := by rw [List.length_take]; have := numP_le c; unfold numP at this; omega
   have h3 := HS.out
   have h4 := HC.out.2
   omega
  rw [hL0] at hbld htake
  rw [hp]
  obtain ⟨y, hy⟩ : ∃ y, byteAt c p = y := ⟨_, rfl⟩
  have hy256 : y < 256 := by rw [← hy]; exact byteAt_lt c p
  have hline : lineL c p = titleL y ++ (if 0 < pushN y then 32 :: hexO (behindL c p (pushN y)) else []) ++ [10] := by unfold lineL; rw [hy]
  rw [hy]
  have m3 : Has X w2.heap.size tMB #[.map (some B)] := HB3.out.others hok (by have := HZ.out; omega) (by decide)
  have m1 : Has X W.heap.size tSt #[.string s] := HB1.out.1.others hok (by have := HZ.out; have := HB1.out.2; omega) (by decide)
  have mm : MapB X B 700 opI := HM5.out.1.others hok (by have := HZ.out; have := HM5.out.2; omega)
  have x3 := m3.cell 0 _ rfl
  have HX0 := hid (And.intro hbld (And.intro hok hbel))
  have HX1 := hid (And.intro hbld (And.intro hok (And.intro hbel (And.intro (Lib.OthersKept.refl 5 (some W3.heap.size) X) (Nat.le_refl X.heap.size)))))
  have HLEN := hid hlen
  have HTL := hid (title_len y hy256)
  have HM1 := hid m1
  have HTI := hid (title_any X B 700 mm y hy256)
  have HPU := hid (fun w => pushed_any w y hy256)
  have HPC := hid hpc
  have HLI := hid (htake.trans (by rw [hline]))
  have HPN := hid (pushN_le y)
  clear hbld hok hbel m3 m1 mm hlen hy256 hpc htake hline hp hy hL0 hkN
  gi_wp2_with fail
  refine (callsIn_free (free_round l) HTI.out).mono ?_
  rintro _ v1 ⟨rfl, r1⟩
  have HX2 := hid (show Lib.IsBuilderF 64 5 W3.heap.size W3.heap.size (Lib.byteCells (L0)) v1 ∧ Lib.OthersKept 5 (some W3.heap.size) W5 v1 ∧ Below W3.heap.size W5 v1 ∧ Lib.OthersKept 5 (some W3.heap.size) X v1 ∧ X.heap.size ≤ v1.heap.size from ⟨builder_later HX1.out.1 r1, HX1.out.2.1.trans (ok_below r1), HX1.out.2.2.1.trans (r1.mono (Nat.le_of_lt (builderB_lt HX1.out.1))), HX1.out.2.2.2.1.trans (ok_below r1), Nat.le_trans HX1.out.2.2.2.2 r1.size⟩)
  clear r1 HX1
  clear x3 HTI
  gi_wp2_with fail
  refine (callsIn_free (free_round l) (writeString_k W3.heap.size W3.heap.size _ ⟨(titleL y).toArray⟩ v1 HX2.out.1 (by
   have h1 := HLEN.out
   rw [Lib.byteCells_length]
   have h2 : (⟨(titleL y).toArray⟩ : ByteArray).size = (titleL y).length := by simp [ByteArray.size]
   rw [h2]
   have := HTL.out; omega) (Nat.le_of_lt (builderB_lt HX2.out.1)))).mono ?_
  rintro _ v2 ⟨rfl, bb, rr, oo⟩
  have HX3 := hid (show Lib.IsBuilderF 64 5 W3.heap.size W3.heap.size (Lib.byteCells (L0 ++ (titleL y))) v2 ∧ Lib.OthersKept 5 (some W3.heap.size) W5 v2 ∧ Below W3.heap.size W5 v2 ∧ Lib.OthersKept 5 (some W3.heap.size) X v2 ∧ X.heap.size ≤ v2.heap.size from ⟨by rw [Lib.byteCells_append]; exact .inr bb, HX2.out.2.1.trans oo, HX2.out.2.2.1.trans rr, HX2.out.2.2.2.1.trans oo, Nat.le_trans HX2.out.2.2.2.2 rr.size⟩)
  clear bb rr oo HX2
  gi_wp2_with fail
  refine (callsIn_free (free_round l) (HPU.out _)).mono ?_
  rintro _ v2' ⟨rfl, hw⟩
  rw [hw]
  clear hw v2' HPU
  by_cases hp0 : pushN y = 0
  ·have HL2 := hid (show L0 ++ titleL y ++ ([10] : List UInt8) = ((placesL c).take (k + 1)).flatMap (lineL c) by rw [HLI.out, hp0, if_neg (by omega)]; simp)
   rw [hp0]
   clear HLI hp0 HPN
   gi_wp2_with fail
   refine (callsIn_free (free_round l) (writeString_k W3.heap.size W3.heap.size _ ⟨([10]).toArray⟩ v2 HX3.out.1 (by
    have h1 := HLEN.out
    rw [Lib.byteCells_length]
    have h2 : (⟨([10]).toArray⟩ : ByteArray).size = ([10]).length := by simp [ByteArray.size]
    rw [h2]
    simp only [List.length_append, List.length_cons, List.length_nil]; have := HTL.out; omega) (Nat.le_of_lt (builderB_lt HX3.out.1)))).mono ?_
   rintro _ v3 ⟨rfl, bb, rr, oo⟩
   have HX4 := hid (show Lib.IsBuilderF 64 5 W3.heap.size W3.heap.size (Lib.byteCells (L0 ++ titleL y ++ ([10]))) v3 ∧ Lib.OthersKept 5 (some W3.heap.size) W5 v3 ∧ Below W3.heap.size W5 v3 ∧ Lib.OthersKept 5 (some W3.heap.size) X v3 ∧ X.heap.size ≤ v3.heap.size from ⟨by rw [Lib.byteCells_append]; exact .inr bb, HX3.out.2.1.trans oo, HX3.out.2.2.1.trans rr, HX3.out.2.2.2.1.trans oo, Nat.le_trans HX3.out.2.2.2.2 rr.size⟩)
   clear bb rr oo HX3
   gi_wp2_with fail
   have HXE := HX4.out.1
   rw [HL2.out] at HXE
   refine ⟨⟨HX4.out.2.2.2.2, fun i o hi hio hoc => HX4.out.2.2.2.1 i o hio (fun e => by have := HZ.out; have := Option.some.inj e; omega) (fun c fz e => by subst e; cases hoc)⟩, fun b hb => ?_, HXE, HX4.out.2.1, HX4.out.2.2.1⟩
   obtain rfl : b = W4.heap.size := by simpa using hb
   have h5 : Has X W4.heap.size tSt #[.string s] := HB5.out.others HX0.out.2.1 (by have := HZ.out; omega) (by decide)
   exact (HX4.out.2.2.2.1 _ _ h5 (fun e => by have := HZ.out; have := Option.some.inj e; omega) (fun c fz e => by cases e)).trans h5.symm
  ·have p0 : (0 : Int) < (pushN y : Int) := by omega
   have HL2 := hid (show L0 ++ titleL y ++ (32 :: hexO (behindL c p (pushN y))) ++ ([10] : List UInt8) = ((placesL c).take (k + 1)).flatMap (lineL c) by rw [HLI.out, if_pos (by omega)]; simp)
   have m1' : Has v2 W.heap.size tSt #[.string s] := HM1.out.others HX3.out.2.2.2.1 (by have := HZ.out; have := HB1.out.2; omega) (by decide)
   have x1 := m1'.cell 0 _ rfl
   have HBE := hid (fun w => behind_any w s p (pushN y) (by rw [← HC.out.2]; exact HPC.out) (Nat.le_trans HS.out (by decide)) (Nat.le_trans HPN.out (by decide)))
   rw [HC.out.1] at HBE
   have hbl : (behindL c p (pushN y)).length ≤ 32 := by unfold behindL; rw [List.length_take]; exact Nat.le_trans (Nat.min_le_left _ _) HPN.out
   have HDI := hid (digitsO_any v2 (behindL c p (pushN y)) (Nat.le_trans hbl (by decide)))
   have hhl := hexO_len (behindL c p (pushN y))
   have HCT := hid (show (ByteArray.mk #[32]) ++ (ByteArray.mk (hexO (behindL c p (pushN y))).toArray) = ⟨(32 :: hexO (behindL c p (pushN y))).toArray⟩ from catB [32] _)
   obtain ⟨hx, hhx⟩ : ∃ hx, hexO (behindL c p (pushN y)) = hx := ⟨_, rfl⟩
   rw [hhx] at HL2 HDI hhl HCT
   have HHL := hid (show hx.length ≤ 66 by omega)
   have hcat : ¬ 9223372036854775807 < 1 + hx.length := by omega
   obtain ⟨bh, hbh⟩ : ∃ bh, behindL c p (pushN y) = bh := ⟨_, rfl⟩
   rw [hbh] at HBE HDI
   generalize pushN y = pn at *
   clear HLI hp0 HPN hhl hhx hbl hbh m1' HM1
   gi_wp2_with fail
   refine (callsIn_free (free_round l) (HBE.out _)).mono ?_
   rintro _ v2' ⟨rfl, hw⟩
   rw [hw]
   clear hw v2' HBE
   gi_wp2_with fail
   refine (callsIn_free (free_round l) HDI.out).mono ?_
   rintro _ v3 ⟨rfl, r3⟩
   have HX4 := hid (show Lib.IsBuilderF 64 5 W3.heap.size W3.heap.size (Lib.byteCells (L0 ++ titleL y)) v3 ∧ Lib.OthersKept 5 (some W3.heap.size) W5 v3 ∧ Below W3.heap.size W5 v3 ∧ Lib.OthersKept 5 (some W3.heap.size) X v3 ∧ X.heap.size ≤ v3.heap.size from ⟨builder_later HX3.out.1 r3, HX3.out.2.1.trans (ok_below r3), HX3.out.2.2.1.trans (r3.mono (Nat.le_of_lt (builderB_lt HX3.out.1))), HX3.out.2.2.2.1.trans (ok_below r3), Nat.le_trans HX3.out.2.2.2.2 r3.size⟩)
   clear r3 HX3
   clear HDI x1
   gi_wp2_with fail
   rw [HCT.out]
   refine (callsIn_free (free_round l) (writeString_k W3.heap.size W3.heap.size _ ⟨(32 :: hx).toArray⟩ v3 HX4.out.1 (by
    have h1 := HLEN.out
    rw [Lib.byteCells_length]
    have h2 : (⟨(32 :: hx).toArray⟩ : ByteArray).size = (32 :: hx).length := by simp [ByteArray.size]
    rw [h2]
    simp only [List.length_append, List.length_cons]; have := HTL.out; have := HHL.out; omega) (Nat.le_of_lt (builderB_lt HX4.out.1)))).mono ?_
   rintro _ v4 ⟨rfl, bb, rr, oo⟩
   have HX5 := hid (show Lib.IsBuilderF 64 5 W3.heap.size W3.heap.size (Lib.byteCells (L0 ++ titleL y ++ (32 :: hx))) v4 ∧ Lib.OthersKept 5 (some W3.heap.size) W5 v4 ∧ Below W3.heap.size W5 v4 ∧ Lib.OthersKept 5 (some W3.heap.size) X v4 ∧ X.heap.size ≤ v4.heap.size from ⟨by rw [Lib.byteCells_append]; exact .inr bb, HX4.out.2.1.trans oo, HX4.out.2.2.1.trans rr, HX4.out.2.2.2.1.trans oo, Nat.le_trans HX4.out.2.2.2.2 rr.size⟩)
   clear bb rr oo HX4
   gi_wp2_with fail
   refine (callsIn_free (free_round l) (writeString_k W3.heap.size W3.heap.size _ ⟨([10]).toArray⟩ v4 HX5.out.1 (by
    have h1 := HLEN.out
    rw [Lib.byteCells_length]
    have h2 : (⟨([10]).toArray⟩ : ByteArray).size = ([10]).length := by simp [ByteArray.size]
    rw [h2]
    simp only [List.length_append, List.length_cons, List.length_nil]; have := HTL.out; have := HHL.out; omega) (Nat.le_of_lt (builderB_lt HX5.out.1)))).mono ?_
   rintro _ v5 ⟨rfl, bb, rr, oo⟩
   have HX6 := hid (show Lib.IsBuilderF 64 5 W3.heap.size W3.heap.size (Lib.byteCells (L0 ++ titleL y ++ (32 :: hx) ++ ([10]))) v5 ∧ Lib.OthersKept 5 (some W3.heap.size) W5 v5 ∧ Below W3.heap.size W5 v5 ∧ Lib.OthersKept 5 (some W3.heap.size) X v5 ∧ X.heap.size ≤ v5.heap.size from ⟨by rw [Lib.byteCells_append]; exact .inr bb, HX5.out.2.1.trans oo, HX5.out.2.2.1.trans rr, HX5.out.2.2.2.1.trans oo, Nat.le_trans HX5.out.2.2.2.2 rr.size⟩)
   clear bb rr oo HX5
   gi_wp2_with fail
   have HXE := HX6.out.1
   rw [HL2.out] at HXE
   refine ⟨⟨HX6.out.2.2.2.2, fun i o hi hio hoc => HX6.out.2.2.2.1 i o hio (fun e => by have := HZ.out; have := Option.some.inj e; omega) (fun c fz e => by subst e; cases hoc)⟩, fun b hb => ?_, HXE, HX6.out.2.1, HX6.out.2.2.1⟩
   obtain rfl : b = W4.heap.size := by simpa using hb
   have h5 : Has X W4.heap.size tSt #[.string s] := HB5.out.others HX0.out.2.1 (by have := HZ.out; omega) (by decide)
   exact (HX6.out.2.2.2.1 _ _ h5 (fun e => by have := HZ.out; have := Option.some.inj e; omega) (fun c fz e => by cases e)).trans h5.symm
 case done =>
  rintro D X hD ⟨h1, h2, h3⟩ hK
  rw [show (placesL c).take (numP c) = placesL c from placesL_all c] at h1
  have HI := hid h1
  have HK := hid hK
  have HQ := hid (Q5.out.trans (h3.mono (by have := HZ.out; have := HB1.out.2; omega)))
  clear h1 h2 h3 hK
  gi_wp2_with fail
  refine (callsIn_free free_wide (string_any_k W3.heap.size W3.heap.size _ X HI.out (Nat.le_of_lt (builderB_lt HI.out)))).mono ?_
  rintro _ v6 ⟨rfl, _, q6, o6⟩
  have hK' : v6.heap[D]? = some (.deferred (some [])) := o6 D _ HK.out (fun e => by have := HZ.out; have := Option.some.inj e; omega) (fun c fz e => by cases e)
  have HQ6 := hid (HQ.out.trans (q6.mono (by have := HZ.out; have := HB1.out.2; omega)))
  clear q6 o6
  gi_wp2_with fail
  refine ⟨by simp, .inl ⟨_, _, rfl, run_takeDeferred hK', ?_⟩⟩
  exact ⟨_, (by simp [results, Tryd.f17, go_sem]), rfl, HQ6.out.trans (below_putK (by have := HQ6.out.size; have := HZ.out; have := HB1.out.2; omega))⟩
 case stop =>
  rintro D cc k X hD hkn h hK
  exact h.elim
end
end Go.Proofs.YthcmfadofogfaaaDoor
