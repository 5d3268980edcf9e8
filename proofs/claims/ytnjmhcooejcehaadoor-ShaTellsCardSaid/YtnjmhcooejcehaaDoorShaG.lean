/- Sum: a text's hash. For all texts. -/
import Derived.Test.YtnjmhcooejcehaaDoorShaF
namespace Go.Proofs.YtnjmhcooejcehaaDoor
open Go Go.RowKit Go.Shelf
attribute [local go_sem] Oper.semAt_some Grows wide_fn

set_option maxRecDepth 100000 in
theorem chunk_any (g n cap : Nat) (w : World) :
    Calls Tryd.prog 17 #[.slice (some ⟨g, 0, none⟩) n cap, .int .i64 64] w fun e w' => e = .returned (.func (.func 25) #[] #[.pointer (some ⟨w.heap.size, 0, none⟩), .pointer (some ⟨w.heap.size + 1, 0, none⟩)]) ∧ w' = (w.alloc (.cells #[.slice (some ⟨g, 0, none⟩) n cap] 26)).alloc (.cells #[.int .i64 64] 3) := by
  have L := (Has.new (w.alloc (.cells #[.slice (some ⟨g, 0, none⟩) n cap] 26)) 3 #[.int .i64 64])
  simp only [World.size_alloc] at L
  have k0 := L.cell 0 _ rfl
  clear L
  go_enter Tryd.func17, Tryd.ntmps17
  go_wp2
  go_ret
  exact ⟨rfl, rfl⟩

set_option maxRecDepth 100000 in
set_option maxHeartbeats 2000000 in
theorem chunk_seq (n : Nat) (hn : 1 ≤ n) (N g cap b c : Nat) (hN : N ≤ 16777216) (hcap : 64 * N ≤ cap) (hmax : cap ≤ 9223372036854775807) (w : World) (hb : b < w.heap.size) (hcl : c < w.heap.size)
    (kb : w.cell? ⟨b, 0, none⟩ = some (.slice (some ⟨g, 0, none⟩) (64 * N) cap)) (kc : w.cell? ⟨c, 0, none⟩ = some (.int .i64 64)) :
    SeqN Fence.wide n Tryd.prog 25 #[.pointer (some ⟨b, 0, none⟩), .pointer (some ⟨c, 0, none⟩)] (fun k => #[.slice (some ⟨g, 64 * k, none⟩) 64 64]) (KeepsAt [b, c]) N w := by
  intro l J Jx W hW hJA _ hY h0
  have HA := Lib.hid hJA
  have HY := Lib.hid hY
  clear hJA hY
  have kb' := (hW.cell (p := ⟨b, 0, none⟩) hb).trans kb
  have kc' := (hW.cell (p := ⟨c, 0, none⟩) hcl).trans kc
  clear kb kc
  have hmx : Tryd.prog.follows .mixedOrders = true := by kernel_rfl
  refine callsIn_of_wp Tryd.func25 rfl trivial ?_ rfl
  simp only [Tryd.ntmps25, List.size_toArray, List.length_cons, List.length_nil, Nat.reduceAdd, Nat.reduceSub, Array.replicate_succ, Array.replicate_zero, List.push_toArray, List.append_toArray, List.nil_append, List.cons_append]
  gi_wp2
  gi_loopw [4] (fun i wr => ∃ k : Nat, k ≤ N ∧ i = .int .i64 ((64 * k : Nat) : Int) ∧ J k wr ∧ KeepsAt [b, c] W wr) (fun i _ => 64 * N - (intOf i).toNat)
  case atStart => exact ⟨0, Nat.zero_le _, rfl, h0, KeepsAt.refl _ _⟩
  case round =>
    obtain ⟨k, hk, rfl, hJs, hnx⟩ := hrel
    have kbx := (hnx.cell (p := ⟨b, 0, none⟩) (by simp)).trans kb'
    have kcx := (hnx.cell (p := ⟨c, 0, none⟩) (by simp)).trans kc'
    clear kb' kc'
    by_cases hlt : k < N
    · have hstep : ((64 * (k + 1) : Nat) : Int) = ((64 * k : Nat) : Int) + 64 := by omega
      have h1 : ((64 * k : Nat) : Int) + 64 ≤ ((64 * N : Nat) : Int) := by omega
      have h2 : ((64 * N : Nat) : Int) ≤ (cap : Int) := by omega
      have h3 : (cap : Int) ≤ 9223372036854775807 := by omega
      have HLT := Lib.hid hlt
      have HST := Lib.hid hstep
      have lb := lt_of_cell kbx
      have lc := lt_of_cell kcx
      have HNX := Lib.hid hnx
      have HJ := Lib.hid hJs
      have ex : ∀ x : Ext wr, x.w.cell? ⟨b, 0, none⟩ = some (.slice (some ⟨g, 0, none⟩) (64 * N) cap) := fun x => (x.below.cell (p := ⟨b, 0, none⟩) lb).trans kbx
      have ey : ∀ x : Ext wr, x.w.cell? ⟨c, 0, none⟩ = some (.int .i64 64) := fun x => (x.below.cell (p := ⟨c, 0, none⟩) lc).trans kcx
      have HYk := Lib.hid (HY.out k)
      clear hk hlt hstep hnx hJs
      generalize 64 * N = n1 at *
      generalize 64 * k = i at *
      gi_wp2_with fail
      refine wpIn_region_mix (C := Grows wr) free_wide [some true, some true, some true, some true, some true, some true, none] hmx (by kernel_rfl) (by kernel_rfl) (grows_refl wr) ?_
      simp only [headOf, tailOf]
      repeat (go_big_quiet_step (fail))
      refine wpQuiet_nil ?_
      rintro _ ⟨x, rfl⟩
      have hJ2 := HA.out k wr x.w none HJ.out (grown_of_below x.below none) (fun r e => by cases e)
      have hK2 := Lib.hid (HNX.out.trans (KeepsAt.below (KeepsAt.refl _ _) x.below (fun b' hb' => by simp at hb'; rcases hb' with rfl | rfl <;> assumption)))
      obtain ⟨fn, tmps, assign, body, hy, hR⟩ := HYk.out x.w HLT.out hJ2
      have ex' := ex x
      have ey' := ey x
      clear ex ey hJ2 kbx kcx lb lc
      go_wp2
      rw [calmPost_normal]
      gi_wp2
      refine hR.mono ?_
      rintro e W3 (⟨rfl, hJ3, hk3⟩ | ⟨rfl, hJx3⟩)
      · have ey3 := (hk3.cell (p := ⟨c, 0, none⟩) (by simp)).trans ey'
        have HJ3 := Lib.hid hJ3
        have HK3 := Lib.hid hk3
        clear ex' ey' hk3 hJ3
        gi_wp2
        go_roundw
        case rel => exact ⟨k + 1, HLT.out, by rw [HST.out], HJ3.out, hK2.out.trans HK3.out⟩
        case measure => simp [intOf]; omega
      · gi_wp2
        refine bodyPost_ret (results_none rfl _ _ _) rfl ?_
        exact ⟨⟨_, rfl⟩, .inr ⟨k, HLT.out, hJx3⟩⟩
    · obtain rfl : k = N := by omega
      gi_wp2
      go_end0
      exact ⟨⟨_, rfl⟩, .inl hJs⟩

theorem Has.grown {A X : World} {row : Option Nat} {B : Nat} {t : TypeId} {cs : Array Value} (h : Has A B t cs) (hg : A.grownBy X row) (hr : ∀ r, row = some r → ∃ o : Obj, A.heap[r]? = some o ∧ o.isCells = false) : Has X B t cs := by
  refine (hg.block B h.lt (fun e => ?_)).trans h
  obtain ⟨o, ho, hc⟩ := hr B e.symm
  rw [show A.heap[B]? = _ from h] at ho
  cases ho
  cases hc
theorem Has.kept {A X : World} {row : Option Nat} {B : Nat} {t : TypeId} {cs : Array Value} (h : Has A B t cs) (hg : A.grownBy X row) (hne : some B ≠ row) : Has X B t cs := (hg.block B h.lt hne).trans h
/-- The letters behind k blocks. -/
def blkN (s : ByteArray) : Nat → Nat → Nat
  | 0 => hN
  | k + 1 => withN (blkN s k) (wdN fun j => padN s (64 * k + j))
theorem blkN_lt (s : ByteArray) : ∀ k j, blkN s k j < 2 ^ 32
  | 0, j => hN_lt j
  | k + 1, j => withN_lt _ _ j
/-- A text's hash. -/
def sumS (s : ByteArray) : ByteArray := texS (blkN s (nbN s.size))
theorem sumS_size (s : ByteArray) : (sumS s).size = 32 := texS_size _

theorem keepsFrom_below {B : Nat} {W X : World} (h : Below W.heap.size W X) : KeepsFrom B W X := Ext.keeps ⟨X, h⟩ B
theorem keepsFrom_row {B a : Nat} (W : World) (ha : a < B) (cs : Array Value) : KeepsFrom B W (W.setRow a cs) :=
  ⟨by show _ ≤ (W.heap.modify a _).size; rw [Array.size_modify]; exact Nat.le_refl _, fun k o hB hk _ => (setRow_other (by omega)).trans hk⟩

/-- What the blocks hold: the letters, the text's bytes, the two boxes of the iterator. -/
structure SuSt (w : World) (g b c n : Nat) (P : Nat → Nat) (A : Nat → Nat) (W : World) : Prop where
  A : Has W w.heap.size 46 (arC 8 A)
  G : Has W g 5 (ubC n P)
  B : Has W b 26 #[.slice (some ⟨g, 0, none⟩) n n]
  C : Has W c 3 #[.int .i64 64]
  T : Tab W
  Q : Below w.heap.size w W
theorem SuSt.own (w : World) (g b c n B : Nat) (P : Nat → Nat) (hw : 1 < w.heap.size ∧ w.heap.size ≤ B) (A : Nat → Nat → Nat) : OwnFrom B (fun (k : Nat) W => SuSt w g b c n P (A k) W) := fun s X Y row hs hg hr =>
  ⟨hs.A.grown hg (fun r e => (hr r e).2), hs.G.grown hg (fun r e => (hr r e).2), hs.B.grown hg (fun r e => (hr r e).2), hs.C.grown hg (fun r e => (hr r e).2),
    ⟨Nat.lt_of_lt_of_le hs.T.lt hg.size, fun i hi => (World.cell?_of_block (w := X) (hg.block 0 (by have := hs.T.lt; omega) (fun e => by have := (hr 0 e.symm).1; omega))).trans (hs.T.h i hi), fun i hi => (World.cell?_of_block (w := X) (hg.block 1 hs.T.lt (fun e => by have := (hr 1 e.symm).1; omega))).trans (hs.T.k i hi)⟩,
    ⟨hg.os.trans hs.Q.os, hg.tape.trans hs.Q.tape, hg.output.trans hs.Q.output, Nat.le_trans hs.Q.size hg.size, fun k hk => (hg.block k (Nat.lt_of_lt_of_le hk hs.Q.size) (fun e => by have := (hr k e.symm).1; omega)).trans (hs.Q.block k hk)⟩⟩
theorem SuSt.later {w : World} {g b c n : Nat} {P A : Nat → Nat} {W X : World} (h : SuSt w g b c n P A W) (hb : Below W.heap.size W X) : SuSt w g b c n P A X :=
  ⟨h.A.later hb, h.G.later hb, h.B.later hb, h.C.later hb, h.T.later hb, h.Q.trans (hb.mono h.Q.size)⟩
theorem sched_at (g o : Nat) (D : Nat → Nat) (hD : ∀ j, D j < 256) {W : World} (hc : ∀ j, j < 64 → W.cell? ⟨g, o + j, none⟩ = some (.int .u8 ((D j : Nat) : Int))) (x : Ext W) :
    Calls Tryd.prog 20 #[.slice (some ⟨g, o, none⟩) 64 64] x.w fun e w'' => e = .returned (.agg (arC 64 (wdN D))) ∧ ∃ y : Ext W, w'' = y.w :=
  (schedule_calls g o D hD x.w (fun j hj => (x.below.cell (p := ⟨g, o + j, none⟩) (lt_of_cell (hc j hj))).trans (hc j hj))).mono fun _ w' ⟨he, hb⟩ => ⟨he, ⟨w', x.2.trans (hb.mono x.2.size)⟩, rfl⟩

set_option maxRecDepth 100000 in
theorem sum_long (s : ByteArray) (hs : 1048576 < s.size) : Ret Tryd.prog 10 #[.string s] (.tuple #[.string ⟨#[]⟩, .int .i64 2]) := by
  refine Ret.of_same fun w => ?_
  have hsI : (1048576 : Int) < (s.size : Int) := by omega
  go_enter Tryd.func10, Tryd.ntmps10
  go_wp2
  go_ret2
  exact ⟨rfl, rfl⟩

set_option maxRecDepth 100000 in
set_option maxHeartbeats 4000000 in
theorem sum_ret (s : ByteArray) (hs : s.size ≤ 1048576) : RetT Tryd.prog 10 #[.string s] (.tuple #[.string (sumS s), .int .i64 0]) := by
  intro w HT0
  have hw0 := HT0.lt
  have hmx : Tryd.prog.follows .mixedOrders = true := by kernel_rfl
  have hsI : (s.size : Int) ≤ 1048576 := by omega
  have HPAD := Lib.hid (padded_calls s hs)
  have hNb : nbN s.size ≤ 16777216 := by unfold nbN; omega
  have hN2 : 64 * nbN s.size ≤ 9223372036854775807 := by unfold nbN; omega
  have HF : Hid (sumS s = texS (blkN s (nbN s.size))) := Lib.hid rfl
  generalize nbN s.size = N at *
  have HWI := Lib.hid with_ret
  have HTX := Lib.hid text_ret
  have LA := Has.new w 46 #[.int .u32 0, .int .u32 0, .int .u32 0, .int .u32 0, .int .u32 0, .int .u32 0, .int .u32 0, .int .u32 0]
  have HLA := Lib.hid LA
  have H1 := Lib.hid (one_arC 8 hN)
  have HI := Lib.hid (infoA8 hN)
  have hz : Hid ((#[.int .u32 0, .int .u32 0, .int .u32 0, .int .u32 0, .int .u32 0, .int .u32 0, .int .u32 0, .int .u32 0] : Array Value).size = (arC 8 hN).size) := Lib.hid (by rw [arC_size]; rfl)
  have HLH := Lib.hid (loadH HT0)
  have LA2 := Lib.hid (show Has ((w.alloc (.cells #[.int .u32 0, .int .u32 0, .int .u32 0, .int .u32 0, .int .u32 0, .int .u32 0, .int .u32 0, .int .u32 0] 46)).setRow w.heap.size (arC 8 hN)) w.heap.size 46 (arC 8 (blkN s 0)) from LA.row)
  have HT2 := Lib.hid ((HT0.alloc (.cells #[.int .u32 0, .int .u32 0, .int .u32 0, .int .u32 0, .int .u32 0, .int .u32 0, .int .u32 0, .int .u32 0] 46)).row hw0 (arC 8 hN))
  have Q2 := Lib.hid (below_row ((Below.refl w.heap.size w).alloc (Nat.le_refl _) (.cells #[.int .u32 0, .int .u32 0, .int .u32 0, .int .u32 0, .int .u32 0, .int .u32 0, .int .u32 0, .int .u32 0] 46)) (Nat.le_refl _) (arC 8 hN))
  clear LA HT0
  refine (callsIn_wide (n := 8)).1 ?_
  refine callsIn_of_wp_marks Tryd.func10 rfl trivial ?_ rfl
  simp only [Tryd.ntmps10, List.size_toArray, List.length_cons, List.length_nil, Nat.reduceAdd, Nat.reduceSub, Array.replicate_succ, Array.replicate_zero, List.push_toArray, List.append_toArray, List.nil_append, List.cons_append]
  gi_wp2_with (first | (refine wpListIn_loadB free_wide rfl _ _ rfl 0 rfl _ HLH.out ?_) | (refine wpListIn_storeB free_wide rfl _ _ _ rfl w.heap.size (arC 8 hN) rfl rfl _ _ HLA.out HI.out hz.out H1.out ?_))
  obtain ⟨w1, hw1⟩ : ∃ w1, (w.alloc (.cells #[.int .u32 0, .int .u32 0, .int .u32 0, .int .u32 0, .int .u32 0, .int .u32 0, .int .u32 0, .int .u32 0] 46)).setRow w.heap.size (arC 8 hN) = w1 := ⟨_, rfl⟩
  rw [hw1] at LA2 HT2 Q2 ⊢
  clear hw1 HLA H1 HI hz HLH
  refine (callsIn_free free_wide (HPAD.out _)).mono ?_
  rintro e w3 ⟨g, rfl, hgw, LG, q⟩
  have LA := LA2.out.later q
  have HT := HT2.out.later q
  have Q := Q2.out.trans (q.mono Q2.out.size)
  have haw := LA2.out.lt
  have hga : w.heap.size < g := by omega
  have hgl := LG.lt
  clear q HPAD LA2 HT2 Q2
  gi_wp2_with fail
  refine (callsIn_free free_wide (chunk_any _ _ _ _)).mono ?_
  rintro e w4 ⟨rfl, rfl⟩
  have LB := (Has.new w3 26 #[.slice (some ⟨g, 0, none⟩) (64 * N) (64 * N)]).alloc (.cells #[.int .i64 64] 3)
  have LC := Has.new (w3.alloc (.cells #[.slice (some ⟨g, 0, none⟩) (64 * N) (64 * N)] 26)) 3 #[.int .i64 64]
  simp only [World.size_alloc] at LC
  have LG := (LG.alloc (.cells #[.slice (some ⟨g, 0, none⟩) (64 * N) (64 * N)] 26)).alloc (.cells #[.int .i64 64] 3)
  have LA := (LA.alloc (.cells #[.slice (some ⟨g, 0, none⟩) (64 * N) (64 * N)] 26)).alloc (.cells #[.int .i64 64] 3)
  have HT := (HT.alloc (.cells #[.slice (some ⟨g, 0, none⟩) (64 * N) (64 * N)] 26)).alloc (.cells #[.int .i64 64] 3)
  have Q := (Q.alloc Q.size (.cells #[.slice (some ⟨g, 0, none⟩) (64 * N) (64 * N)] 26)).alloc (by have := Q.size; simp; omega) (.cells #[.int .i64 64] 3)
  have hsz : ((w3.alloc (.cells #[.slice (some ⟨g, 0, none⟩) (64 * N) (64 * N)] 26)).alloc (.cells #[.int .i64 64] 3)).heap.size = w3.heap.size + 2 := by simp
  obtain ⟨W0, hW0⟩ : ∃ W0, (w3.alloc (.cells #[.slice (some ⟨g, 0, none⟩) (64 * N) (64 * N)] 26)).alloc (.cells #[.int .i64 64] 3) = W0 := ⟨_, rfl⟩
  rw [hW0] at LB LC LG LA HT Q hsz ⊢
  clear hW0
  generalize w3.heap.size = b at *
  have hJ0 : SuSt w g b (b + 1) (64 * N) (padN s) (blkN s 0) W0 := ⟨LA, LG, LB, LC, HT, Q⟩
  have kb := LB.cell 0 _ rfl
  have kc := LC.cell 0 _ rfl
  clear LA LG LB LC HT Q
  have HLT := Lib.hid (blkN_lt s)
  have HBY := Lib.hid (pdK_lt s 8)
  have hNs : ∀ k, k < N → ∀ j, j < 64 → 64 * k + j < 64 * N := fun k hk j hj => by omega
  have HNs := Lib.hid hNs
  clear hNs
  gi_wp2_with fail
  generalize Value.bool (decide (1048576 < ((s.size : Nat) : Int))) = v8
  generalize Value.agg (arC 8 hN) = v9
  refine wpIn_rangeFunc_N1 rfl (by omega) (gf := 25) (lb := #[.pointer (some ⟨b, 0, none⟩), .pointer (some ⟨b + 1, 0, none⟩)]) rfl trivial (enters_of Tryd.func25 (by kernel_rfl) rfl)
    (chunk_seq _ (by omega) N g (64 * N) b (b + 1) hNb (Nat.le_refl _) hN2 W0 (by omega) (by omega) kb kc) KeepsAt.trans (KeepsAt.refl _) (KeepsAt.b (by simp; omega)) (fun _ _ => rfl)
    (fun k W => SuSt w g b (b + 1) (64 * N) (padN s) (blkN s k) W) (fun _ _ _ => False) (SuSt.own w g b (b + 1) (64 * N) _ (padN s) ⟨hw0, by have := hJ0.A.lt; omega⟩ (blkN s)) (fun _ _ _ _ _ hs _ _ => hs) hJ0
    (fun k => { tmps := #[.string s, undef, .string ⟨#[]⟩, .int .i64 0, .pointer (some ⟨w.heap.size, 0, none⟩), .slice (some ⟨g, 64 * k, none⟩) 64 64, .string s, .int .i64 (s.size : Int), v8, v9, .string s, .slice (some ⟨g, 0, none⟩) (64 * N) (64 * N), .func (.func 25) #[] #[.pointer (some ⟨b, 0, none⟩), .pointer (some ⟨b + 1, 0, none⟩)], .slice (some ⟨g, 64 * k, none⟩) 64 64, undef, undef, undef, undef, undef, undef], defers := [] }) ?assign ?body ?done ?stop
  case assign =>
    intro l k W K hkN hK
    clear hkN
    gi_wp2
    exact hK
  case body =>
    rintro l k W hl hkN hst
    have haW : w.heap.size < W0.heap.size := by have := hJ0.A.lt; omega
    have hgA : g ≠ w.heap.size := by omega
    have hbA : b ≠ w.heap.size := by omega
    have hcA : b + 1 ≠ w.heap.size := by omega
    have hcell : ∀ j, j < 64 → W.cell? ⟨g, 64 * k + j, none⟩ = some (.int .u8 ((padN s (64 * k + j) : Nat) : Int)) := fun j hj => hst.G.cell _ _ (ubC_get _ _ _ (HNs.out k hkN j hj))
    have hD : ∀ j, padN s (64 * k + j) < 256 := fun j => HBY.out (64 * k + j)
    have HSC := Lib.hid (fun x : Ext W => sched_at g (64 * k) (fun j => padN s (64 * k + j)) hD hcell x)
    have c0 : ∀ x : Ext W, x.w.cell? ⟨w.heap.size, 0, none⟩ = some (.int .u32 ((blkN s k 0 : Nat) : Int)) := fun x => (hst.A.later x.below).cell 0 _ rfl
    have c1 : ∀ x : Ext W, x.w.cell? ⟨w.heap.size, 1, none⟩ = some (.int .u32 ((blkN s k 1 : Nat) : Int)) := fun x => (hst.A.later x.below).cell 1 _ rfl
    have c2 : ∀ x : Ext W, x.w.cell? ⟨w.heap.size, 2, none⟩ = some (.int .u32 ((blkN s k 2 : Nat) : Int)) := fun x => (hst.A.later x.below).cell 2 _ rfl
    have c3 : ∀ x : Ext W, x.w.cell? ⟨w.heap.size, 3, none⟩ = some (.int .u32 ((blkN s k 3 : Nat) : Int)) := fun x => (hst.A.later x.below).cell 3 _ rfl
    have c4 : ∀ x : Ext W, x.w.cell? ⟨w.heap.size, 4, none⟩ = some (.int .u32 ((blkN s k 4 : Nat) : Int)) := fun x => (hst.A.later x.below).cell 4 _ rfl
    have c5 : ∀ x : Ext W, x.w.cell? ⟨w.heap.size, 5, none⟩ = some (.int .u32 ((blkN s k 5 : Nat) : Int)) := fun x => (hst.A.later x.below).cell 5 _ rfl
    have c6 : ∀ x : Ext W, x.w.cell? ⟨w.heap.size, 6, none⟩ = some (.int .u32 ((blkN s k 6 : Nat) : Int)) := fun x => (hst.A.later x.below).cell 6 _ rfl
    have c7 : ∀ x : Ext W, x.w.cell? ⟨w.heap.size, 7, none⟩ = some (.int .u32 ((blkN s k 7 : Nat) : Int)) := fun x => (hst.A.later x.below).cell 7 _ rfl
    have HWK : Hid (RetT Tryd.prog 19 #[.agg (arC 8 (blkN s k)), .agg (arC 64 (wdN fun j => padN s (64 * k + j)))] (.agg (arC 8 (blkN s (k + 1))))) := Lib.hid (HWI.out (blkN s k) (wdN fun j => padN s (64 * k + j)) (HLT.out k))
    rw [arC8_eq (blkN s k)] at HWK
    have hwle : w.heap.size ≤ W.heap.size := hst.Q.size
    have HST := Lib.hid hst
    clear hJ0 kb kc hst hkN HWI HLT HBY HNs hcell hD
    generalize (wdN fun j => padN s (64 * k + j)) = wd at *
    obtain ⟨A2, hA2⟩ : ∃ A2, blkN s (k + 1) = A2 := ⟨_, rfl⟩
    rw [hA2] at HWK
    have HE := Lib.hid hA2
    clear hA2
    gi_wp2_with fail
    refine wpIn_region_mix (C := Grows W) (free_round l) [some true, some true, some true, none, none] hmx (by kernel_rfl) (by kernel_rfl) (grows_refl W) ?_
    simp only [headOf, tailOf]
    repeat (go_big_quiet_step (first | (with_reducible exact HSC.out _)))
    refine wpQuiet_nil ?_
    rintro _ ⟨x, rfl⟩
    have S1 := Lib.hid (HST.out.later x.below)
    have HKF := Lib.hid (x.keeps W0.heap.size)
    have HKA : Hid (KeepsAt [b, b + 1] W x.w) := Lib.hid (fun y hy => x.below.block y (by simp at hy; have h1 := HST.out.B.lt; have h2 := HST.out.C.lt; omega))
    clear c0 c1 c2 c3 c4 c5 c6 c7 HSC
    obtain ⟨w1, hw1⟩ : ∃ w1, x.w = w1 := ⟨_, rfl⟩
    rw [hw1] at S1 HKF HKA ⊢
    clear hw1 x
    go_wp2_with fail
    refine (HWK.out _ S1.out.T).mono ?_
    rintro e w2 ⟨rfl, q⟩
    have hA2' := S1.out.A.later q
    have HA2 := Lib.hid hA2'
    have HI2 := Lib.hid (infoA8 A2)
    have HO2 := Lib.hid (one_arC 8 A2)
    have HZ2 : Hid ((arC 8 (blkN s k)).size = (arC 8 A2).size) := Lib.hid (by rw [arC_size, arC_size])
    have HS3 : Hid (SuSt w g b (b + 1) (64 * N) (padN s) A2 (w2.setRow w.heap.size (arC 8 A2))) := Lib.hid
      ⟨hA2'.row, (S1.out.G.later q).rowOther hgA, (S1.out.B.later q).rowOther hbA, (S1.out.C.later q).rowOther hcA, (S1.out.T.later q).row hw0 _, below_row (S1.out.Q.trans (q.mono S1.out.Q.size)) (Nat.le_refl _) _⟩
    have HKF3 := Lib.hid ((HKF.out.trans (keepsFrom_below q)).trans (keepsFrom_row w2 haW (arC 8 A2)))
    have HKA3 : Hid (KeepsAt [b, b + 1] W (w2.setRow w.heap.size (arC 8 A2))) := Lib.hid (fun y hy => (setRow_other (by simp at hy; omega)).trans ((q.block y (by simp at hy; have h1 := S1.out.B.lt; have h2 := S1.out.C.lt; omega)).trans (HKA.out y hy)))
    clear q hA2' S1 HKF HKA
    go_wp2_with (refine wpList_storeB rfl _ _ _ rfl w.heap.size (arC 8 A2) rfl rfl _ _ HA2.out HI2.out HZ2.out HO2.out ?_)
    rw [calmPost_normal]
    gi_wp2_with fail
    exact ⟨HKF3.out, HKA3.out, by show SuSt w g b (b + 1) (64 * N) (padN s) (blkN s (k + 1)) _; rw [HE.out]; exact HS3.out⟩
  case done =>
    rintro D W hD hst hK
    have HK := Lib.hid hK
    have HST := Lib.hid hst
    have HL8 := Lib.hid (load8 hst.A)
    clear hst hK hJ0 kb kc
    gi_wp2_with (refine wpListIn_loadB free_wide rfl _ _ rfl w.heap.size rfl _ HL8.out ?_)
    refine (callsIn_free free_wide (HTX.out (blkN s N) W)).mono ?_
    rintro e w2 ⟨rfl, q⟩
    have hK2 : w2.heap[D]? = some (.deferred (some [])) := (q.block D (Array.getElem?_eq_some_iff.1 HK.out).1).trans HK.out
    have Q2 := HST.out.Q.trans (q.mono HST.out.Q.size)
    have HQ2 := Lib.hid (Q2.trans (belowK_b (w := w) (Nat.le_refl _) _ D _ (.deferred none) (by have := HST.out.A.lt; omega) hK2 rfl rfl))
    have HK2 := Lib.hid hK2
    clear q hK2 Q2
    generalize texS (blkN s N) = out at *
    gi_wp2
    refine ⟨by simp, .inl ⟨_, _, rfl, run_takeDeferred HK2.out, ?_⟩⟩
    exact ⟨.tuple #[.string out, .int .i64 0], by simp [results, Tryd.f10, go_sem], by rw [HF.out], HQ2.out⟩
  case stop =>
    rintro D c k W _ _ h _
    exact h.elim
end Go.Proofs.YtnjmhcooejcehaaDoor
