/- The tables of package sha, and each H behind a block of words. For all letters and words. -/
import Derived.Test.YtnjmhcooejcehaaDoorShaC
namespace Go.Proofs.YtnjmhcooejcehaaDoor
open Go Go.RowKit Go.Shelf
attribute [local go_sem] Oper.semAt_some Grows wide_fn

/-- The world's first two blocks hold the H at first, and the K. -/
structure Tab (W : World) : Prop where
  lt : 1 < W.heap.size
  h : ∀ i, i < 8 → W.cell? ⟨0, i, none⟩ = some (.int .u32 ((hN i : Nat) : Int))
  k : ∀ i, i < 64 → W.cell? ⟨1, i, none⟩ = some (.int .u32 ((kN i : Nat) : Int))
theorem Tab.below {W W' : World} {n : Nat} (h : Tab W) (hb : Below n W W') (hn : 1 < n) : Tab W' :=
  ⟨Nat.lt_of_lt_of_le h.lt hb.size, fun i hi => (hb.cell (p := ⟨0, i, none⟩) (show 0 < n by omega)).trans (h.h i hi), fun i hi => (hb.cell (p := ⟨1, i, none⟩) hn).trans (h.k i hi)⟩
theorem Tab.later {W W' : World} (h : Tab W) (hb : Below W.heap.size W W') : Tab W' := h.below hb h.lt
theorem Tab.alloc {W : World} (h : Tab W) (o : Obj) : Tab (W.alloc o) := h.later ((Below.refl _ W).alloc (Nat.le_refl _) o)
theorem Tab.other {W : World} (h : Tab W) {p : Addr} (hp : 1 < p.block) (v : Value) : Tab (W.setCell p v) := h.below (n := 2) ((Below.refl 2 W).setCell hp v) (by omega)
theorem Tab.kept {W W' : World} {B : Nat} (h : Tab W) (hg : W.grownBy W' (some B)) (hB : 1 < B) : Tab W' :=
  ⟨Nat.lt_of_lt_of_le h.lt hg.size, fun i hi => (World.cell?_of_block (w := W) (hg.block 0 (by have := h.lt; omega) (fun e => by cases e; omega))).trans (h.h i hi), fun i hi => (World.cell?_of_block (w := W) (hg.block 1 h.lt (fun e => by cases e; omega))).trans (h.k i hi)⟩
theorem Tab.row {W : World} {B : Nat} (h : Tab W) (hB : 1 < B) (cs : Array Value) : Tab (W.setRow B cs) := h.below (n := 2) (below_row (Below.refl 2 W) hB cs) (by omega)

/-- A call that gives one value where the tables lie, and only adds to the heap. -/
def RetT (P : Program) (f : FuncId) (args : Array Value) (v : Value) : Prop := ∀ w, Tab w → Calls P f args w fun e w' => e = .returned v ∧ Below w.heap.size w w'
theorem Ret.toT {P : Program} {f : FuncId} {args : Array Value} {v : Value} (h : Ret P f args v) : RetT P f args v := fun w _ => h w
theorem RetT.at {P : Program} {f : FuncId} {args : Array Value} {v : Value} (h : RetT P f args v) {W : World} (hT : Tab W) (x : Ext W) :
    Calls P f args x.w fun e w'' => e = .returned v ∧ ∃ y : Ext W, w'' = y.w :=
  (h x.w (hT.later x.below)).mono fun _ w' ⟨he, hb⟩ => ⟨he, ⟨w', x.2.trans (hb.mono x.2.size)⟩, rfl⟩
theorem RetT.of_eq {P : Program} {f : FuncId} {args args' : Array Value} {v v' : Value} (h : RetT P f args v) (ha : args = args') (hv : v = v') : RetT P f args' v' := by subst ha; subst hv; exact h

theorem load_tab {W : World} {g n : Nat} {A : Nat → Nat} {t : TypeId} (hc : ∀ i, i < n → W.cell? ⟨g, i, none⟩ = some (.int .u32 ((A i : Nat) : Int))) (hi : (Tryd.prog.info? t).map (·.size) = some n)
    (hagg : (isAgg t).run Tryd.prog W = .ok true W) : (loadVar t ⟨g, 0, none⟩).run Tryd.prog W = .ok (.agg (arC n A)) W := by
  have hl : (loadCells ⟨g, 0, none⟩ (arC n A).toList.length).run Tryd.prog W = .ok (arC n A).toList.toArray W :=
    run_loadCells_list (P := Tryd.prog) W ⟨g, 0, none⟩ (arC n A).toList (fun j v hv => by
      have hadd : (⟨g, 0, none⟩ : Addr).add j = ⟨g, j, none⟩ := by unfold Addr.add; split <;> simp_all
      have hsz : (arC n A).toList.length = n := by rw [Array.length_toList, arC_size]
      have hj : j < n := by
        rcases Nat.lt_or_ge j n with h' | h'
        · exact h'
        · rw [List.getElem?_eq_none (by omega)] at hv; cases hv
      have hg := arC_get n A j hj
      rw [Array.getElem?_toList] at hv
      rw [hadd, hc j hj, ← hg, hv])
  cases hq : Tryd.prog.info? t with
  | none => simp [hq] at hi
  | some i =>
    have hs : i.size = n := by simpa [hq] using hi
    have hl2 : (loadCells ⟨g, 0, none⟩ n).run Tryd.prog W = .ok (arC n A) W := by simpa [arC_size] using hl
    simp [loadVar, Sem.run_bind, hagg, sizeOf, typeInfo, hq, hs, hl2]
theorem agg8 (W : World) : (isAgg 46).run Tryd.prog W = .ok true W := by
  unfold isAgg
  rw [Sem.run_bind, run_underlying Tryd.underlying46 W]
  rfl
theorem agg64 (W : World) : (isAgg 52).run Tryd.prog W = .ok true W := by
  unfold isAgg
  rw [Sem.run_bind, run_underlying Tryd.underlying52 W]
  rfl
theorem loadH {W : World} (h : Tab W) : (loadVar 46 ⟨0, 0, none⟩).run Tryd.prog W = .ok (.agg (arC 8 hN)) W := load_tab h.h info8 (agg8 W)
theorem loadK {W : World} (h : Tab W) : (loadVar 52 ⟨1, 0, none⟩).run Tryd.prog W = .ok (.agg (arC 64 kN)) W := load_tab h.k info64 (agg64 W)
theorem index64 (A : Nat → Nat) (k : Nat) (hk : k < 64) (W : World) : (Instr.index 52 (.agg (arC 64 A)) (.int .i64 (k : Int))).run Tryd.prog W = .ok (.int .u32 ((A k : Nat) : Int)) W := by
  have u := Tryd.underlying52
  have a3 := Tryd.isAgg44
  have z3 := Tryd.sizeOf44
  have hg := arC_get 64 A k hk
  have hkI : (k : Int) < 64 := by omega
  unfold Instr.index
  simp only [Sem.run_bind, run_underlying u, Result.andThen_ok]
  simp [go_sem, part, asIntOf, a3, z3, hkI, hg]
theorem index8 (A : Nat → Nat) (k : Nat) (hk : k < 8) (W : World) : (Instr.index 46 (.agg (arC 8 A)) (.int .i64 (k : Int))).run Tryd.prog W = .ok (.int .u32 ((A k : Nat) : Int)) W := by
  have u := Tryd.underlying46
  have a3 := Tryd.isAgg44
  have z3 := Tryd.sizeOf44
  have hg := arC_get 8 A k hk
  have hkI : (k : Int) < 8 := by omega
  unfold Instr.index
  simp only [Sem.run_bind, run_underlying u, Result.andThen_ok]
  simp [go_sem, part, asIntOf, a3, z3, hkI, hg]

/-- The H of which k are over. -/
def adN (H W : Nat → Nat) (k j : Nat) : Nat := if j < k then withN H W j else H j

set_option maxRecDepth 100000 in
set_option maxHeartbeats 4000000 in
theorem with_ret (H V : Nat → Nat) (hH : ∀ j, H j < 2 ^ 32) : RetT Tryd.prog 19 #[.agg (arC 8 H), .agg (arC 64 V)] (.agg (arC 8 (withN H V))) := by
  intro w HT0
  have hmx : Tryd.prog.follows .mixedOrders = true := by kernel_rfl
  have HL := Lib.hid (ltrK_lt H V hH)
  have LH := ((Has.new w 46 (arC 8 H)).alloc (.cells (arC 64 V) 52)).alloc (.cells #[.int .u32 0, .int .u32 0, .int .u32 0, .int .u32 0, .int .u32 0, .int .u32 0, .int .u32 0, .int .u32 0] 46)
  have LV := (Has.new (w.alloc (.cells (arC 8 H) 46)) 52 (arC 64 V)).alloc (.cells #[.int .u32 0, .int .u32 0, .int .u32 0, .int .u32 0, .int .u32 0, .int .u32 0, .int .u32 0, .int .u32 0] 46)
  have LR := Has.new ((w.alloc (.cells (arC 8 H) 46)).alloc (.cells (arC 64 V) 52)) 46 #[.int .u32 0, .int .u32 0, .int .u32 0, .int .u32 0, .int .u32 0, .int .u32 0, .int .u32 0, .int .u32 0]
  simp only [World.size_alloc] at LV LR
  have Q := (((Below.refl w.heap.size w).alloc (Nat.le_refl _) (.cells (arC 8 H) 46)).alloc (by simp) (.cells (arC 64 V) 52)).alloc (by simp; omega) (.cells #[.int .u32 0, .int .u32 0, .int .u32 0, .int .u32 0, .int .u32 0, .int .u32 0, .int .u32 0, .int .u32 0] 46)
  have HT := ((HT0.alloc (.cells (arC 8 H) 46)).alloc (.cells (arC 64 V) 52)).alloc (.cells #[.int .u32 0, .int .u32 0, .int .u32 0, .int .u32 0, .int .u32 0, .int .u32 0, .int .u32 0, .int .u32 0] 46)
  have hsz : (((w.alloc (.cells (arC 8 H) 46)).alloc (.cells (arC 64 V) 52)).alloc (.cells #[.int .u32 0, .int .u32 0, .int .u32 0, .int .u32 0, .int .u32 0, .int .u32 0, .int .u32 0, .int .u32 0] 46)).heap.size = w.heap.size + 1 + 1 + 1 := by simp
  obtain ⟨W0, hW0⟩ : ∃ W0, ((w.alloc (.cells (arC 8 H) 46)).alloc (.cells (arC 64 V) 52)).alloc (.cells #[.int .u32 0, .int .u32 0, .int .u32 0, .int .u32 0, .int .u32 0, .int .u32 0, .int .u32 0, .int .u32 0] 46) = W0 := ⟨_, rfl⟩
  rw [hW0] at LH LV LR Q HT hsz
  have LN := Has.new W0 46 #[.int .u32 0, .int .u32 0, .int .u32 0, .int .u32 0, .int .u32 0, .int .u32 0, .int .u32 0, .int .u32 0]
  rw [hsz] at LN
  have HLH := Lib.hid (load8 LH)
  have HLN := Lib.hid LN
  have H1 := Lib.hid (one_arC 8 H)
  have HI := Lib.hid (infoA8 H)
  have hz : Hid ((#[.int .u32 0, .int .u32 0, .int .u32 0, .int .u32 0, .int .u32 0, .int .u32 0, .int .u32 0, .int .u32 0] : Array Value).size = (arC 8 H).size) := Lib.hid (by rw [arC_size]; rfl)
  have LH2 : Has ((W0.alloc (.cells #[.int .u32 0, .int .u32 0, .int .u32 0, .int .u32 0, .int .u32 0, .int .u32 0, .int .u32 0, .int .u32 0] 46)).setRow (w.heap.size + 1 + 1 + 1) (arC 8 H)) w.heap.size 46 (arC 8 H) := (LH.alloc _).rowOther (by omega)
  have LV2 : Has ((W0.alloc (.cells #[.int .u32 0, .int .u32 0, .int .u32 0, .int .u32 0, .int .u32 0, .int .u32 0, .int .u32 0, .int .u32 0] 46)).setRow (w.heap.size + 1 + 1 + 1) (arC 8 H)) (w.heap.size + 1) 52 (arC 64 V) := (LV.alloc _).rowOther (by omega)
  have LR2 : Has ((W0.alloc (.cells #[.int .u32 0, .int .u32 0, .int .u32 0, .int .u32 0, .int .u32 0, .int .u32 0, .int .u32 0, .int .u32 0] 46)).setRow (w.heap.size + 1 + 1 + 1) (arC 8 H)) (w.heap.size + 1 + 1) 46 #[.int .u32 0, .int .u32 0, .int .u32 0, .int .u32 0, .int .u32 0, .int .u32 0, .int .u32 0, .int .u32 0] := (LR.alloc _).rowOther (by omega)
  have LN2 : Has ((W0.alloc (.cells #[.int .u32 0, .int .u32 0, .int .u32 0, .int .u32 0, .int .u32 0, .int .u32 0, .int .u32 0, .int .u32 0] 46)).setRow (w.heap.size + 1 + 1 + 1) (arC 8 H)) (w.heap.size + 1 + 1 + 1) 46 (arC 8 (ltrK H V 0)) := LN.row
  have HT2 : Tab ((W0.alloc (.cells #[.int .u32 0, .int .u32 0, .int .u32 0, .int .u32 0, .int .u32 0, .int .u32 0, .int .u32 0, .int .u32 0] 46)).setRow (w.heap.size + 1 + 1 + 1) (arC 8 H)) := (HT.alloc _).row (by have := HT0.lt; omega) _
  have Q2 : Below w.heap.size w ((W0.alloc (.cells #[.int .u32 0, .int .u32 0, .int .u32 0, .int .u32 0, .int .u32 0, .int .u32 0, .int .u32 0, .int .u32 0] 46)).setRow (w.heap.size + 1 + 1 + 1) (arC 8 H)) := below_row (Q.alloc Q.size _) (by omega) _
  have HLK := Lib.hid (loadK HT2)
  clear LH LV LR LN HT Q hsz
  subst hW0
  have LH2 := Lib.hid LH2
  have LV2 := Lib.hid LV2
  have LR2 := Lib.hid LR2
  have LN2 := Lib.hid LN2
  have Q2 := Lib.hid Q2
  have HT2 := Lib.hid HT2
  go_enter Tryd.func19, Tryd.ntmps19
  go_wp2_with (first | (refine wpList_loadB rfl _ _ rfl 1 rfl _ HLK.out ?_) | (refine wpList_loadB rfl _ _ rfl w.heap.size rfl _ HLH.out ?_) | (refine wpList_storeB rfl _ _ _ rfl (w.heap.size + 1 + 1 + 1) (arC 8 H) rfl rfl _ _ HLN.out HI.out hz.out H1.out ?_))
  obtain ⟨W2, hW2⟩ : ∃ W2, ((((w.alloc (.cells (arC 8 H) 46)).alloc (.cells (arC 64 V) 52)).alloc (.cells #[.int .u32 0, .int .u32 0, .int .u32 0, .int .u32 0, .int .u32 0, .int .u32 0, .int .u32 0, .int .u32 0] 46)).alloc (.cells #[.int .u32 0, .int .u32 0, .int .u32 0, .int .u32 0, .int .u32 0, .int .u32 0, .int .u32 0, .int .u32 0] 46)).setRow (w.heap.size + 1 + 1 + 1) (arC 8 H) = W2 := ⟨_, rfl⟩
  rw [hW2] at LH2 LV2 LR2 LN2 Q2 HLK ⊢
  clear hW2 HLH HLN HLK H1 HI hz HT2 HT0
  go_loopw [12] (fun i wr => ∃ k : Nat, k ≤ 64 ∧ i = .int .i64 (k : Int) ∧ Has wr w.heap.size 46 (arC 8 H) ∧ Has wr (w.heap.size + 1) 52 (arC 64 V) ∧ Has wr (w.heap.size + 1 + 1) 46 #[.int .u32 0, .int .u32 0, .int .u32 0, .int .u32 0, .int .u32 0, .int .u32 0, .int .u32 0, .int .u32 0] ∧ Has wr (w.heap.size + 1 + 1 + 1) 46 (arC 8 (ltrK H V k)) ∧ Below w.heap.size w wr) (fun i _ => 64 - (intOf i).toNat)
  case atStart => exact ⟨0, by omega, rfl, LH2.out, LV2.out, LR2.out, LN2.out, Q2.out⟩
  case round =>
    clear LH2 LV2 LR2 LN2 Q2
    obtain ⟨k, hk, rfl, LH, LV, LR, LN, Q⟩ := hrel
    by_cases hlt : k < 64
    · have hkI : (k : Int) < 64 := by omega
      have hix := index64 kN k hlt wr
      have kv : ∀ x : Ext wr, x.w.cell? ⟨w.heap.size + 1, k, none⟩ = some (.int .u32 ((V k : Nat) : Int)) := fun x => (LV.later x.below).cell _ _ (arC_get 64 _ _ hlt)
      have c0 : ∀ x : Ext wr, x.w.cell? ⟨w.heap.size + 1 + 1 + 1, 0, none⟩ = some (.int .u32 ((ltrK H V k 0 : Nat) : Int)) := fun x => (LN.later x.below).cell 0 _ rfl
      have c1 : ∀ x : Ext wr, x.w.cell? ⟨w.heap.size + 1 + 1 + 1, 1, none⟩ = some (.int .u32 ((ltrK H V k 1 : Nat) : Int)) := fun x => (LN.later x.below).cell 1 _ rfl
      have c2 : ∀ x : Ext wr, x.w.cell? ⟨w.heap.size + 1 + 1 + 1, 2, none⟩ = some (.int .u32 ((ltrK H V k 2 : Nat) : Int)) := fun x => (LN.later x.below).cell 2 _ rfl
      have c3 : ∀ x : Ext wr, x.w.cell? ⟨w.heap.size + 1 + 1 + 1, 3, none⟩ = some (.int .u32 ((ltrK H V k 3 : Nat) : Int)) := fun x => (LN.later x.below).cell 3 _ rfl
      have c4 : ∀ x : Ext wr, x.w.cell? ⟨w.heap.size + 1 + 1 + 1, 4, none⟩ = some (.int .u32 ((ltrK H V k 4 : Nat) : Int)) := fun x => (LN.later x.below).cell 4 _ rfl
      have c5 : ∀ x : Ext wr, x.w.cell? ⟨w.heap.size + 1 + 1 + 1, 5, none⟩ = some (.int .u32 ((ltrK H V k 5 : Nat) : Int)) := fun x => (LN.later x.below).cell 5 _ rfl
      have c6 : ∀ x : Ext wr, x.w.cell? ⟨w.heap.size + 1 + 1 + 1, 6, none⟩ = some (.int .u32 ((ltrK H V k 6 : Nat) : Int)) := fun x => (LN.later x.below).cell 6 _ rfl
      have c7 : ∀ x : Ext wr, x.w.cell? ⟨w.heap.size + 1 + 1 + 1, 7, none⟩ = some (.int .u32 ((ltrK H V k 7 : Nat) : Int)) := fun x => (LN.later x.below).cell 7 _ rfl
      have hw := wrap_add (kN k) (V k)
      have HN := Lib.hid (next_ret (ltrK H V k) (HL.out k) ((kN k + V k) % 2 ^ 32))
      have HS : Hid (ltrK H V (k + 1) = nextN (ltrK H V k) ((kN k + V k) % 2 ^ 32)) := Lib.hid rfl
      have e8 := arC8_eq (ltrK H V k)
      rw [e8] at HN
      clear e8
      have HLH := Lib.hid LH
      have HLV := Lib.hid LV
      have HLR := Lib.hid LR
      have HLN := Lib.hid LN
      have HQ := Lib.hid Q
      have HLT := Lib.hid hlt
      clear LH LV LR LN Q hlt hk HL
      generalize nextN (ltrK H V k) ((kN k + V k) % 2 ^ 32) = nx at *
      generalize (kN k + V k) % 2 ^ 32 = ad at *
      generalize V k = vk at *
      generalize kN k = kk at *
      go_wp2_with fail
      refine wp_region_mix (C := Grows wr) [some true, some true, some true, some true, some true, some true, none, none] hmx (by kernel_rfl) (by kernel_rfl) (grows_refl wr) ?_
      simp only [headOf, tailOf]
      repeat (go_big_quiet_step (fail))
      refine wpQuiet_nil ?_
      rintro _ ⟨x, rfl⟩
      have L1 := Lib.hid (HLH.out.later x.below)
      have L2 := Lib.hid (HLV.out.later x.below)
      have L3 := Lib.hid (HLR.out.later x.below)
      have L4 := Lib.hid (HLN.out.later x.below)
      have Q1 := Lib.hid (HQ.out.trans (x.below.mono HQ.out.size))
      clear c0 c1 c2 c3 c4 c5 c6 c7 kv hix hw HLH HLV HLR HLN HQ
      obtain ⟨w1, hw1⟩ : ∃ w1, x.w = w1 := ⟨_, rfl⟩
      rw [hw1] at L1 L2 L3 L4 Q1 ⊢
      clear hw1 x
      go_wp2_with fail
      refine (HN.out _).mono ?_
      rintro e w2 ⟨rfl, q⟩
      have M1 := Lib.hid ((L1.out.later q).rowOther (B := w.heap.size + 1 + 1 + 1) (cs' := arC 8 nx) (by omega))
      have M2 := Lib.hid ((L2.out.later q).rowOther (B := w.heap.size + 1 + 1 + 1) (cs' := arC 8 nx) (by omega))
      have M3 := Lib.hid ((L3.out.later q).rowOther (B := w.heap.size + 1 + 1 + 1) (cs' := arC 8 nx) (by omega))
      have M4 := Lib.hid (L4.out.later q)
      have M5 := Lib.hid (M4.out.row (cs' := arC 8 nx))
      have Q2 := Lib.hid (below_row (Q1.out.trans (q.mono Q1.out.size)) (B := w.heap.size + 1 + 1 + 1) (by omega) (arC 8 nx))
      have hz : Hid ((arC 8 (ltrK H V k)).size = (arC 8 nx).size) := Lib.hid (by rw [arC_size, arC_size])
      have HI := Lib.hid (infoA8 nx)
      have H1 := Lib.hid (one_arC 8 nx)
      clear L1 L2 L3 L4 Q1 q
      go_wp2_with (refine wpList_storeB rfl _ _ _ rfl (w.heap.size + 1 + 1 + 1) (arC 8 nx) rfl rfl _ _ M4.out HI.out hz.out H1.out ?_)
      rw [calmPost_normal]
      go_wp2_with fail
      go_roundw
      case rel => exact ⟨k + 1, by have := HLT.out; omega, by simp, M1.out, M2.out, M3.out, by rw [HS.out]; exact M5.out, Q2.out⟩
      case measure => simp [intOf]; omega
    · obtain rfl : k = 64 := by omega
      have HA := Lib.hid (load8 LN)
      have HE : Hid (∀ j, withN H V j = (H j + ltrK H V 64 j) % 2 ^ 32) := Lib.hid (fun j => rfl)
      have LH : Has wr w.heap.size 46 (arC 8 (adN H V 0)) := LH
      clear hk hlt LV HL LN
      generalize ltrK H V 64 = Z at *
      simp only [Int.cast_ofNat_Int]
      go_wp2_with (refine wpList_loadB rfl _ _ rfl (w.heap.size + 1 + 1 + 1) rfl _ HA.out ?_)
      go_loopw [25] (fun i wr => ∃ k : Nat, k ≤ 8 ∧ i = .int .i64 (k : Int) ∧ Has wr w.heap.size 46 (arC 8 (adN H V k)) ∧ Has wr (w.heap.size + 1 + 1) 46 #[.int .u32 0, .int .u32 0, .int .u32 0, .int .u32 0, .int .u32 0, .int .u32 0, .int .u32 0, .int .u32 0] ∧ Below w.heap.size w wr) (fun i _ => 8 - (intOf i).toNat)
      case atStart => exact ⟨0, by omega, rfl, LH, LR, Q⟩
      case round =>
        clear LH LR Q HA
        obtain ⟨k, hk, rfl, LH, LR, Q⟩ := hrel
        by_cases hlt : k < 8
        · have hkI : (k : Int) < 8 := by omega
          have hix := index8 Z k hlt wr
          have va : adN H V k k = H k := if_neg (by omega)
          have kh := LH.cell _ _ (arC_get 8 _ _ hlt)
          rw [va] at kh
          have kz := LH.frozen k
          have hw := wrap_add (H k) (Z k)
          rw [← HE.out k] at hw
          have hS' : ∀ i, i < 8 → adN H V (k + 1) i = if i = k then withN H V k else adN H V k i := fun i _ => by
            unfold adN
            by_cases e : i = k
            · rw [if_pos e, if_pos (by omega), e]
            · rw [if_neg e]
              by_cases e2 : i < k
              · rw [if_pos e2, if_pos (by omega)]
              · rw [if_neg e2, if_neg (by omega)]
          have N1 := LH.set k (.int .u32 ((withN H V k : Nat) : Int))
          rw [arC_set 8 _ (adN H V (k + 1)) k _ hS'] at N1
          have H1 := Lib.hid N1
          have H2 := Lib.hid (LR.other (p := ⟨w.heap.size, k, none⟩) (by simp; omega) (.int .u32 ((withN H V k : Nat) : Int)))
          have H3 := Lib.hid (Q.setCell (p := ⟨w.heap.size, k, none⟩) (by simp) (.int .u32 ((withN H V k : Nat) : Int)))
          have HLT := Lib.hid hlt
          clear LH LR Q N1 hS' va hlt hk HE
          generalize withN H V k = r at *
          generalize Z k = zk at *
          generalize H k = hk at *
          go_wp2
          go_roundw
          case rel => exact ⟨k + 1, by have := HLT.out; omega, by simp, H1.out, H2.out, H3.out⟩
          case measure => simp [intOf]; omega
        · obtain rfl : k = 8 := by omega
          rw [arC_congr 8 (adN H V 8) (withN H V) (fun j hj => if_pos hj)] at LH
          have HA := Lib.hid (load8 LH)
          have HR := Lib.hid LR
          have HQ := Lib.hid (below_row (B := w.heap.size + 1 + 1) Q (by omega) (arC 8 (withN H V)))
          have HR2 : Hid (Has (wr.setRow (w.heap.size + 1 + 1) (arC 8 (withN H V))) (w.heap.size + 1 + 1) 46 (arC 8 (withN H V))) := Lib.hid LR.row
          have hz : Hid ((#[.int .u32 0, .int .u32 0, .int .u32 0, .int .u32 0, .int .u32 0, .int .u32 0, .int .u32 0, .int .u32 0] : Array Value).size = (arC 8 (withN H V)).size) := Lib.hid (by rw [arC_size]; rfl)
          have HI := Lib.hid (infoA8 (withN H V))
          have H1 := Lib.hid (one_arC 8 (withN H V))
          clear LH LR Q hk hlt HE
          go_wp2_with (first | (refine wpList_loadB rfl _ _ rfl w.heap.size rfl _ HA.out ?_) | (refine wpList_storeB rfl _ _ _ rfl (w.heap.size + 1 + 1) (arC 8 (withN H V)) rfl rfl _ _ HR.out HI.out hz.out H1.out ?_))
          refine bodyPost_ret (results_cell_row rfl _ _ (w.heap.size + 1 + 1) _ _ (0, 0) _ rfl HR2.out Tryd.underlying46 rfl (infoA8 _)) rfl ⟨rfl, HQ.out⟩
end Go.Proofs.YtnjmhcooejcehaaDoor
