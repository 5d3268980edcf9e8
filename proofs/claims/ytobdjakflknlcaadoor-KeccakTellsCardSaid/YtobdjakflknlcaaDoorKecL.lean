/- Sum: a text's hash. For all texts that are not too long. -/
import Derived.Test.YtobdjakflknlcaaDoorKecK
namespace Go.Proofs.YtobdjakflknlcaaDoor
open Go Go.RowKit Go.Shelf
attribute [local go_sem] Oper.semAt_some Grows wide_fn field0

/-- A text's byte. -/
def byN (p : ByteArray) (i : Nat) : Nat := (p.data.getD i 0).toNat
theorem byN_lt (p : ByteArray) (i : Nat) : byN p i < 256 := (p.data.getD i 0).toNat_lt
theorem byN_at (p : ByteArray) (i : Nat) (hi : i < p.size) : byN p i = (p.data[i]'hi).toNat := by
  unfold byN
  have hi' : i < p.data.size := hi
  rw [Array.getD_eq_getD_getElem?, Array.getElem?_eq_getElem hi']
  rfl
/-- The lanes behind k blocks. -/
def blkN (p : ByteArray) : Nat → Nat → Nat
  | 0 => fun _ => 0
  | k + 1 => permN (absN (blkN p k) (fun j => byN p (136 * k + j)) 136)
theorem permN_lt (A : Nat → Nat) (hA : ∀ j, A j < 2 ^ 64) (j : Nat) : permN A j < 2 ^ 64 := permK_lt A hA 24 (Nat.le_refl _) j
theorem blkN_lt (p : ByteArray) : ∀ k j, blkN p k j < 2 ^ 64
  | 0, j => by show 0 < 2 ^ 64; decide
  | k + 1, j => permN_lt _ (absN_lt _ _ (blkN_lt p k) (fun j => byN_lt p _) 136) j
theorem padS_size (s : ByteArray) : (padS s).size = 136 * (s.size / 136 + 1) := by
  unfold padS
  rw [ByteArray.size_append]
  show s.size + (pcL (pmN s)).toArray.size = _
  simp [pcL, pmN]
  omega
/-- A text's hash. -/
def sumS (s : ByteArray) : ByteArray := sqS (blkN (padS s) (s.size / 136 + 1))

theorem keepsFrom_below {B : Nat} {W X : World} (h : Below W.heap.size W X) : KeepsFrom B W X := Ext.keeps ⟨X, h⟩ B
theorem keepsFrom_row {B a : Nat} (W : World) (ha : a < B) (cs : Array Value) : KeepsFrom B W (W.setRow a cs) :=
  ⟨by show _ ≤ (W.heap.modify a _).size; rw [Array.size_modify]; exact Nat.le_refl _, fun k o hB hk _ => (setRow_other (by omega)).trans hk⟩

/-- What the blocks hold: the lanes, the text's bytes, the two boxes of the iterator. -/
structure SuSt (w : World) (g b c n cap : Nat) (og : Obj) (A : Nat → Nat) (W : World) : Prop where
  A : Has W w.heap.size 24 (luC 25 A)
  G : W.heap[g]? = some og
  B : Has W b 27 #[.slice (some ⟨g, 0, none⟩) n cap]
  C : Has W c 3 #[.int .i64 136]
  T : Tab W
  Q : Below w.heap.size w W
theorem SuSt.own (w : World) (g b c n cap B : Nat) (og : Obj) (hog : og.isCells = true) (hw : 0 < w.heap.size ∧ w.heap.size ≤ B) (A : Nat → Nat → Nat) : OwnFrom B (fun (k : Nat) W => SuSt w g b c n cap og (A k) W) := fun s X Y row hs hg hr =>
  ⟨hs.A.grown hg (fun r e => (hr r e).2), (hg.block g (Array.getElem?_eq_some_iff.1 hs.G).1 (fun e => by obtain ⟨o, ho, hc⟩ := (hr g e.symm).2; rw [hs.G] at ho; cases ho; rw [hog] at hc; cases hc)).trans hs.G, hs.B.grown hg (fun r e => (hr r e).2), hs.C.grown hg (fun r e => (hr r e).2),
    ⟨Nat.lt_of_lt_of_le hs.T.lt hg.size, fun i hi => (World.cell?_of_block (w := X) (hg.block 0 hs.T.lt (fun e => by have := (hr 0 e.symm).1; omega))).trans (hs.T.cell i hi)⟩,
    ⟨hg.os.trans hs.Q.os, hg.tape.trans hs.Q.tape, hg.output.trans hs.Q.output, Nat.le_trans hs.Q.size hg.size, fun k hk => (hg.block k (Nat.lt_of_lt_of_le hk hs.Q.size) (fun e => by have := (hr k e.symm).1; omega)).trans (hs.Q.block k hk)⟩⟩

set_option maxRecDepth 100000 in
theorem sum_long (s : ByteArray) (hs : 1048576 < s.size) : Ret Tryd.prog 8 #[.string s] (.tuple #[.string ⟨#[]⟩, .int .i64 2]) := by
  refine Ret.of_same fun w => ?_
  have hsI : (1048576 : Int) < (s.size : Int) := by omega
  go_enter Tryd.func8, Tryd.ntmps8
  go_wp2
  go_ret2
  exact ⟨rfl, rfl⟩

set_option maxRecDepth 100000 in
set_option maxHeartbeats 4000000 in
theorem sum_ret (s : ByteArray) (hs : s.size ≤ 1048576) : RetT Tryd.prog 8 #[.string s] (.tuple #[.string (sumS s), .int .i64 0]) := by
  intro w HT
  have hw0 := HT.lt
  have hmx : Tryd.prog.follows .mixedOrders = true := by kernel_rfl
  have hsI : (s.size : Int) ≤ 1048576 := by omega
  have hps := padS_size s
  have HPAD := Lib.hid (pad_ret s (by omega))
  have hN : s.size / 136 + 1 ≤ 7895160 := by omega
  have HF : Hid (sumS s = sqS (blkN (padS s) (s.size / 136 + 1))) := Lib.hid rfl
  have HPS := Lib.hid hps
  clear hps
  generalize padS s = ps at *
  generalize s.size / 136 + 1 = N at *
  have HABS := Lib.hid absorb_calls
  have HPER := Lib.hid permute_ret
  have HSQ := Lib.hid squeezed_calls
  have LA := Has.new w 24 #[.int .u64 0, .int .u64 0, .int .u64 0, .int .u64 0, .int .u64 0, .int .u64 0, .int .u64 0, .int .u64 0, .int .u64 0, .int .u64 0, .int .u64 0, .int .u64 0, .int .u64 0, .int .u64 0, .int .u64 0, .int .u64 0, .int .u64 0, .int .u64 0, .int .u64 0, .int .u64 0, .int .u64 0, .int .u64 0, .int .u64 0, .int .u64 0, .int .u64 0]
  have HLA := Lib.hid LA
  have H1 := Lib.hid (one_luC 25 (fun _ => 0))
  clear LA
  refine (callsIn_wide (n := 8)).1 ?_
  refine callsIn_of_wp_marks Tryd.func8 rfl trivial ?_ rfl
  simp only [Tryd.ntmps8, List.size_toArray, List.length_cons, List.length_nil, Nat.reduceAdd, Nat.reduceSub, Array.replicate_succ, Array.replicate_zero, List.push_toArray, List.append_toArray, List.nil_append, List.cons_append]
  gi_wp2_with (refine wpListIn_storeB free_wide rfl _ _ _ rfl w.heap.size #[.int .u64 0, .int .u64 0, .int .u64 0, .int .u64 0, .int .u64 0, .int .u64 0, .int .u64 0, .int .u64 0, .int .u64 0, .int .u64 0, .int .u64 0, .int .u64 0, .int .u64 0, .int .u64 0, .int .u64 0, .int .u64 0, .int .u64 0, .int .u64 0, .int .u64 0, .int .u64 0, .int .u64 0, .int .u64 0, .int .u64 0, .int .u64 0, .int .u64 0] rfl rfl _ #[.int .u64 0, .int .u64 0, .int .u64 0, .int .u64 0, .int .u64 0, .int .u64 0, .int .u64 0, .int .u64 0, .int .u64 0, .int .u64 0, .int .u64 0, .int .u64 0, .int .u64 0, .int .u64 0, .int .u64 0, .int .u64 0, .int .u64 0, .int .u64 0, .int .u64 0, .int .u64 0, .int .u64 0, .int .u64 0, .int .u64 0, .int .u64 0, .int .u64 0] HLA.out info25 rfl H1.out ?_)
  have LA : Has ((w.alloc (.cells #[.int .u64 0, .int .u64 0, .int .u64 0, .int .u64 0, .int .u64 0, .int .u64 0, .int .u64 0, .int .u64 0, .int .u64 0, .int .u64 0, .int .u64 0, .int .u64 0, .int .u64 0, .int .u64 0, .int .u64 0, .int .u64 0, .int .u64 0, .int .u64 0, .int .u64 0, .int .u64 0, .int .u64 0, .int .u64 0, .int .u64 0, .int .u64 0, .int .u64 0] 24)).setRow w.heap.size #[.int .u64 0, .int .u64 0, .int .u64 0, .int .u64 0, .int .u64 0, .int .u64 0, .int .u64 0, .int .u64 0, .int .u64 0, .int .u64 0, .int .u64 0, .int .u64 0, .int .u64 0, .int .u64 0, .int .u64 0, .int .u64 0, .int .u64 0, .int .u64 0, .int .u64 0, .int .u64 0, .int .u64 0, .int .u64 0, .int .u64 0, .int .u64 0, .int .u64 0]) w.heap.size 24 (luC 25 (blkN ps 0)) := HLA.out.row
  have Q : Below w.heap.size w ((w.alloc (.cells #[.int .u64 0, .int .u64 0, .int .u64 0, .int .u64 0, .int .u64 0, .int .u64 0, .int .u64 0, .int .u64 0, .int .u64 0, .int .u64 0, .int .u64 0, .int .u64 0, .int .u64 0, .int .u64 0, .int .u64 0, .int .u64 0, .int .u64 0, .int .u64 0, .int .u64 0, .int .u64 0, .int .u64 0, .int .u64 0, .int .u64 0, .int .u64 0, .int .u64 0] 24)).setRow w.heap.size #[.int .u64 0, .int .u64 0, .int .u64 0, .int .u64 0, .int .u64 0, .int .u64 0, .int .u64 0, .int .u64 0, .int .u64 0, .int .u64 0, .int .u64 0, .int .u64 0, .int .u64 0, .int .u64 0, .int .u64 0, .int .u64 0, .int .u64 0, .int .u64 0, .int .u64 0, .int .u64 0, .int .u64 0, .int .u64 0, .int .u64 0, .int .u64 0, .int .u64 0]) := below_row ((Below.refl w.heap.size w).alloc (Nat.le_refl _) (.cells #[.int .u64 0, .int .u64 0, .int .u64 0, .int .u64 0, .int .u64 0, .int .u64 0, .int .u64 0, .int .u64 0, .int .u64 0, .int .u64 0, .int .u64 0, .int .u64 0, .int .u64 0, .int .u64 0, .int .u64 0, .int .u64 0, .int .u64 0, .int .u64 0, .int .u64 0, .int .u64 0, .int .u64 0, .int .u64 0, .int .u64 0, .int .u64 0, .int .u64 0] 24)) (Nat.le_refl _) _
  have HT := (HT.alloc (.cells #[.int .u64 0, .int .u64 0, .int .u64 0, .int .u64 0, .int .u64 0, .int .u64 0, .int .u64 0, .int .u64 0, .int .u64 0, .int .u64 0, .int .u64 0, .int .u64 0, .int .u64 0, .int .u64 0, .int .u64 0, .int .u64 0, .int .u64 0, .int .u64 0, .int .u64 0, .int .u64 0, .int .u64 0, .int .u64 0, .int .u64 0, .int .u64 0, .int .u64 0] 24)).row hw0 #[.int .u64 0, .int .u64 0, .int .u64 0, .int .u64 0, .int .u64 0, .int .u64 0, .int .u64 0, .int .u64 0, .int .u64 0, .int .u64 0, .int .u64 0, .int .u64 0, .int .u64 0, .int .u64 0, .int .u64 0, .int .u64 0, .int .u64 0, .int .u64 0, .int .u64 0, .int .u64 0, .int .u64 0, .int .u64 0, .int .u64 0, .int .u64 0, .int .u64 0]
  obtain ⟨w1, hw1⟩ : ∃ w1, (w.alloc (.cells #[.int .u64 0, .int .u64 0, .int .u64 0, .int .u64 0, .int .u64 0, .int .u64 0, .int .u64 0, .int .u64 0, .int .u64 0, .int .u64 0, .int .u64 0, .int .u64 0, .int .u64 0, .int .u64 0, .int .u64 0, .int .u64 0, .int .u64 0, .int .u64 0, .int .u64 0, .int .u64 0, .int .u64 0, .int .u64 0, .int .u64 0, .int .u64 0, .int .u64 0] 24)).setRow w.heap.size #[.int .u64 0, .int .u64 0, .int .u64 0, .int .u64 0, .int .u64 0, .int .u64 0, .int .u64 0, .int .u64 0, .int .u64 0, .int .u64 0, .int .u64 0, .int .u64 0, .int .u64 0, .int .u64 0, .int .u64 0, .int .u64 0, .int .u64 0, .int .u64 0, .int .u64 0, .int .u64 0, .int .u64 0, .int .u64 0, .int .u64 0, .int .u64 0, .int .u64 0] = w1 := ⟨_, rfl⟩
  rw [hw1] at LA Q HT ⊢
  clear hw1 HLA H1
  refine (callsIn_free free_wide (HPAD.out _)).mono ?_
  rintro e w2 ⟨rfl, q⟩
  have LA := LA.later q
  have HT := HT.later q
  have Q := Q.trans (q.mono Q.size)
  have haw := LA.lt
  clear q HPAD
  have hcv := run_bytes_of_string (P := Tryd.prog) w2 9 27 5 ps Tryd.underlying9 Tryd.underlying27 Tryd.underlying5
  rw [HPS.out] at hcv
  have hcap := grownCap_ge w2 (136 * N) 0 5
  have hcap2 := grownCap_le_maxLen w2 (136 * N) 0 5 (by unfold maxLen; omega)
  obtain ⟨og, hog⟩ : ∃ og : Obj, .cells (bytesRow ps (grownCap w2 (136 * N) 0 5)) 5 ((bytesRow ps (grownCap w2 (136 * N) 0 5)).size, (bytesRow ps (grownCap w2 (136 * N) 0 5)).size + 1) = og := ⟨_, rfl⟩
  have hogc : og.isCells = true := by rw [← hog]; rfl
  have hog2 : ∀ (W : World) (g : Nat), W.heap[g]? = some og → ∀ i, i < 136 * N → W.cell? ⟨g, i, none⟩ = some (.int .u8 ((byN ps i : Nat) : Int)) := fun W g h i hi => by
    rw [← hog] at h
    have hb := bytesRow_at ps (grownCap w2 (136 * N) 0 5) i (show i < ps.size by rw [HPS.out]; exact hi)
    have he := byN_at ps i (show i < ps.size by rw [HPS.out]; exact hi)
    rw [he]
    simp only [World.cell?, h]
    exact hb
  rw [hog] at hcv
  have LG := World.alloc_heap_new w2.drew og
  have LA : Has (w2.drew.alloc og) w.heap.size 24 (luC 25 (blkN ps 0)) := Has.alloc (W := w2.drew) LA og
  have HT : Tab (w2.drew.alloc og) := Tab.alloc (W := w2.drew) ⟨HT.lt, HT.cell⟩ og
  have Q : Below w.heap.size w (w2.drew.alloc og) := Q.drew.alloc Q.size og
  have hgl : w2.heap.size < (w2.drew.alloc og).heap.size := by simp
  change (w2.drew.alloc og).heap[w2.heap.size]? = some og at LG
  obtain ⟨w3, hw3⟩ : ∃ w3, w2.drew.alloc og = w3 := ⟨_, rfl⟩
  rw [hw3] at hcv LG LA HT Q hgl
  clear hw3 hog
  generalize grownCap w2 (136 * N) 0 5 = cap at *
  generalize w2.heap.size = g at *
  gi_wp2_with fail
  clear hcv
  refine (callsIn_free free_wide (chunk_any _ _ _ _)).mono ?_
  rintro e w4 ⟨rfl, rfl⟩
  have LB := (Has.new w3 27 #[.slice (some ⟨g, 0, none⟩) (136 * N) cap]).alloc (.cells #[.int .i64 136] 3)
  have LC := Has.new (w3.alloc (.cells #[.slice (some ⟨g, 0, none⟩) (136 * N) cap] 27)) 3 #[.int .i64 136]
  simp only [World.size_alloc] at LC
  have LG : ((w3.alloc (.cells #[.slice (some ⟨g, 0, none⟩) (136 * N) cap] 27)).alloc (.cells #[.int .i64 136] 3)).heap[g]? = some og := (Below.heap_alloc _ _ _ (by simp; omega)).trans ((Below.heap_alloc _ _ _ hgl).trans LG)
  have LA := (LA.alloc (.cells #[.slice (some ⟨g, 0, none⟩) (136 * N) cap] 27)).alloc (.cells #[.int .i64 136] 3)
  have HT := (HT.alloc (.cells #[.slice (some ⟨g, 0, none⟩) (136 * N) cap] 27)).alloc (.cells #[.int .i64 136] 3)
  have Q := (Q.alloc Q.size (.cells #[.slice (some ⟨g, 0, none⟩) (136 * N) cap] 27)).alloc (by have := Q.size; simp; omega) (.cells #[.int .i64 136] 3)
  have hsz : ((w3.alloc (.cells #[.slice (some ⟨g, 0, none⟩) (136 * N) cap] 27)).alloc (.cells #[.int .i64 136] 3)).heap.size = w3.heap.size + 2 := by simp
  obtain ⟨W0, hW0⟩ : ∃ W0, (w3.alloc (.cells #[.slice (some ⟨g, 0, none⟩) (136 * N) cap] 27)).alloc (.cells #[.int .i64 136] 3) = W0 := ⟨_, rfl⟩
  rw [hW0] at LB LC LG LA HT Q hsz ⊢
  clear hW0
  generalize w3.heap.size = b at *
  have hJ0 : SuSt w g b (b + 1) (136 * N) cap og (blkN ps 0) W0 := ⟨LA, LG, LB, LC, HT, Q⟩
  have kb := LB.cell 0 _ rfl
  have kc := LC.cell 0 _ rfl
  clear LA LG LB LC HT Q
  have HLT := Lib.hid (blkN_lt ps)
  have HBY := Lib.hid (byN_lt ps)
  have hNs : ∀ k, k < N → ∀ j, j < 136 → 136 * k + j < 136 * N := fun k hk j hj => by omega
  have hm136 : 136 * N ≤ cap := by omega
  have hcm : cap ≤ 9223372036854775807 := by unfold maxLen at hcap2; omega
  have Hog2 := Lib.hid hog2
  have HNs := Lib.hid hNs
  clear hog2 hNs hcap hcap2
  gi_wp2_with fail
  generalize Value.bool (decide (1048576 < ((s.size : Nat) : Int))) = v8
  generalize Value.agg #[.int .u64 0, .int .u64 0, .int .u64 0, .int .u64 0, .int .u64 0, .int .u64 0, .int .u64 0, .int .u64 0, .int .u64 0, .int .u64 0, .int .u64 0, .int .u64 0, .int .u64 0, .int .u64 0, .int .u64 0, .int .u64 0, .int .u64 0, .int .u64 0, .int .u64 0, .int .u64 0, .int .u64 0, .int .u64 0, .int .u64 0, .int .u64 0, .int .u64 0] = v9
  refine wpIn_rangeFunc_N1 rfl (by omega) (gf := 32) (lb := #[.pointer (some ⟨b, 0, none⟩), .pointer (some ⟨b + 1, 0, none⟩)]) rfl trivial (enters_of Tryd.func32 (by kernel_rfl) rfl)
    (chunk_seq _ (by omega) N g cap b (b + 1) hN hm136 hcm W0 (by omega) (by omega) kb kc) KeepsAt.trans (KeepsAt.refl _) (KeepsAt.b (by simp; omega)) (fun _ _ => rfl)
    (fun k W => SuSt w g b (b + 1) (136 * N) cap og (blkN ps k) W) (fun _ _ _ => False) (SuSt.own w g b (b + 1) (136 * N) cap _ og hogc ⟨hw0, by have := hJ0.A.lt; omega⟩ (blkN ps)) (fun _ _ _ _ _ hs _ _ => hs) hJ0
    (fun k => { tmps := #[.string s, undef, .string ⟨#[]⟩, .int .i64 0, .pointer (some ⟨w.heap.size, 0, none⟩), .slice (some ⟨g, 136 * k, none⟩) 136 136, .string s, .int .i64 (s.size : Int), v8, v9, .string s, .string ps, .slice (some ⟨g, 0, none⟩) (136 * N) cap, .func (.func 32) #[] #[.pointer (some ⟨b, 0, none⟩), .pointer (some ⟨b + 1, 0, none⟩)], .slice (some ⟨g, 136 * k, none⟩) 136 136, undef, undef, undef, undef, undef], defers := [] }) ?assign ?body ?done ?stop
  case assign =>
    intro l k W K hkN hK
    clear hkN
    gi_wp2
    exact hK
  case body =>
    rintro l k W hl hkN hst
    have haW : w.heap.size < W0.heap.size := by have := hJ0.A.lt; omega
    have hgA : g ≠ w.heap.size := by omega
    have hcell : ∀ j, j < 136 → W.cell? ⟨g, 136 * k + j, none⟩ = some (.int .u8 ((byN ps (136 * k + j) : Nat) : Int)) := fun j hj => Hog2.out W g hst.G _ (HNs.out k hkN j hj)
    have hA := HLT.out k
    have hD := fun j => HBY.out (136 * k + j)
    have hAB := absN_lt (blkN ps k) (fun j => byN ps (136 * k + j)) hA hD 136
    have HP : Hid (RetT Tryd.prog 5 #[.agg (luC 25 (absN (blkN ps k) (fun j => byN ps (136 * k + j)) 136))] (.agg (luC 25 (blkN ps (k + 1))))) := Lib.hid (HPER.out _ hAB)
    have hwle : w.heap.size ≤ W.heap.size := hst.Q.size
    have HST := Lib.hid hst
    clear hJ0 kb kc hst hkN HPER HLT HBY Hog2 HNs
    gi_wp2_with fail
    refine (callsIn_free (free_round l) (HABS.out w.heap.size g (136 * k) _ _ hA hD hgA W HST.out.A hcell)).mono ?_
    rintro e w1 ⟨⟨v1, rfl⟩, L1, G1⟩
    have S1 : SuSt w g b (b + 1) (136 * N) cap og (absN (blkN ps k) (fun j => byN ps (136 * k + j)) 136) w1 := ⟨L1, (G1.block g (Array.getElem?_eq_some_iff.1 HST.out.G).1 (fun e => hgA (Option.some.inj e))).trans HST.out.G, HST.out.B.kept G1 (fun e => by have := Option.some.inj e; omega), HST.out.C.kept G1 (fun e => by have := Option.some.inj e; omega), HST.out.T.kept G1 hw0, below_of_grown HST.out.Q G1 (Nat.le_refl _)⟩
    have hKF1 := KeepsFrom.of_grownBy (B := W0.heap.size) G1 (fun j e => by have := Option.some.inj e; omega)
    have hKA1 : KeepsAt [b, b + 1] W w1 := fun x hx => G1.block x (by simp at hx; have h1 := HST.out.B.lt; have h2 := HST.out.C.lt; omega) (fun e => by have := Option.some.inj e; simp at hx; omega)
    clear hcell hA hD hAB HABS
    generalize absN (blkN ps k) (fun j => byN ps (136 * k + j)) 136 = AB at *
    have HEQ : Hid (blkN ps (k + 1) = blkN ps (k + 1)) := Lib.hid rfl
    obtain ⟨A2, hA2⟩ : ∃ A2, blkN ps (k + 1) = A2 := ⟨_, rfl⟩
    rw [hA2] at HP
    have HE := Lib.hid hA2
    clear hA2 HEQ
    have HL1 := Lib.hid (load25 S1.A)
    have HS1 := Lib.hid S1
    have HKF1 := Lib.hid hKF1
    have HKA1 := Lib.hid hKA1
    clear L1 G1 S1 hKF1 hKA1
    gi_wp2_with (refine wpListIn_loadB (free_round l) rfl _ _ rfl w.heap.size rfl _ HL1.out ?_)
    clear HL1
    refine (callsIn_free (free_round l) (HP.out _ HS1.out.T)).mono ?_
    rintro e w2 ⟨rfl, q⟩
    have HA2 := Lib.hid (HS1.out.A.later q)
    have HI2 := Lib.hid (infoL A2)
    have HO2 := Lib.hid (one_luC 25 A2)
    have hgA2 : g ≠ w.heap.size := hgA
    have hbA : b ≠ w.heap.size := by omega
    have hcA : b + 1 ≠ w.heap.size := by omega
    have HS3 : Hid (SuSt w g b (b + 1) (136 * N) cap og A2 (w2.setRow w.heap.size (luC 25 A2))) := Lib.hid
      ⟨(HS1.out.A.later q).row, (setRow_other hgA).trans ((q.block g (Array.getElem?_eq_some_iff.1 HS1.out.G).1).trans HS1.out.G), (setRow_other hbA).trans (HS1.out.B.later q), (setRow_other hcA).trans (HS1.out.C.later q), (HS1.out.T.later q).row hw0 _, below_row (HS1.out.Q.trans (q.mono HS1.out.Q.size)) (Nat.le_refl _) _⟩
    have HKF3 := Lib.hid ((HKF1.out.trans (keepsFrom_below q)).trans (keepsFrom_row w2 haW (luC 25 A2)))
    have HKA3 : Hid (KeepsAt [b, b + 1] W (w2.setRow w.heap.size (luC 25 A2))) := Lib.hid (fun x hx => (setRow_other (by simp at hx; omega)).trans ((q.block x (by simp at hx; have h1 := HS1.out.B.lt; have h2 := HS1.out.C.lt; omega)).trans (HKA1.out x hx)))
    clear q
    gi_wp2_with (refine wpListIn_storeB (free_round l) rfl _ _ _ rfl w.heap.size (luC 25 A2) rfl rfl _ _ HA2.out HI2.out (by rw [luC_size, luC_size]) HO2.out ?_)
    exact ⟨HKF3.out, HKA3.out, by show SuSt w g b (b + 1) (136 * N) cap og (blkN ps (k + 1)) _; rw [HE.out]; exact HS3.out⟩
  case done =>
    rintro D W hD hst hK
    have HK := Lib.hid hK
    have HST := Lib.hid hst
    clear hst hK hJ0 kb kc
    gi_wp2_with fail
    refine (callsIn_free free_wide (HSQ.out w.heap.size (blkN ps N) W HST.out.A)).mono ?_
    rintro e w2 ⟨rfl, q⟩
    have hK2 : w2.heap[D]? = some (.deferred (some [])) := (q.block D (Array.getElem?_eq_some_iff.1 HK.out).1).trans HK.out
    have Q2 := HST.out.Q.trans (q.mono HST.out.Q.size)
    have HQ2 := Lib.hid (Q2.trans (belowK_b (w := w) (Nat.le_refl _) _ D _ (.deferred none) (by have := HST.out.A.lt; omega) hK2 rfl rfl))
    have HK2 := Lib.hid hK2
    clear q hK2 Q2
    generalize sqS (blkN ps N) = out at *
    gi_wp2
    refine ⟨by simp, .inl ⟨_, _, rfl, run_takeDeferred HK2.out, ?_⟩⟩
    exact ⟨.tuple #[.string out, .int .i64 0], by simp [results, Tryd.f8, go_sem], by rw [HF.out], HQ2.out⟩
  case stop =>
    rintro D c k W _ _ h _
    exact h.elim
end Go.Proofs.YtobdjakflknlcaaDoor
