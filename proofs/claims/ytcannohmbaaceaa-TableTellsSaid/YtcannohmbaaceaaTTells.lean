/- TableTells. Conditions: the slots and the raw numbers lie in memory. -/
import Derived.Test.YtcannohmbaaceaaTRefD
import Derived.Test.YtcannohmbaaceaaTabV
import Derived.Deep.CutRange
namespace Go.Proofs.Ytcannohmbaaceaa
open Go Go.RowKit
attribute [local go_sem] Oper.semAt_some Grows wide_fn eq4

/-- What Put, Merge and Diff tell: slots, and an error. -/
noncomputable def toldL (ok : Bool) (out : List Sl) : List Sl := if ok = true ∧ out.length ≤ 1000 then out else []
noncomputable def toldE (ok : Bool) (out : List Sl) : Int := if ok = true then (if out.length ≤ 1000 then 0 else 2) else 1
theorem DoneP.told {W : World} {ok : Bool} {out : List Sl} {e : Ending} {W' : World} (h : DoneP W ok out e W') (hw : ∀ x ∈ out, W256 x.1 ∧ W256 x.2) :
    ∃ sv, e = .returned (.tuple #[sv, .int .i64 (toldE ok out)]) ∧ SlotsAt W' sv (toldL ok out) ∧ Below W.heap.size W W' := by
  unfold toldL toldE
  rcases h.1 with ⟨rfl, h2, sv, h3, h4⟩ | ⟨rfl, h2, h3⟩ | ⟨rfl, h3⟩
  · rw [if_pos rfl, if_pos h2, if_pos ⟨rfl, h2⟩]
    exact ⟨sv, h3, h4.slots hw, h.2⟩
  · rw [if_pos rfl, if_neg h2, if_neg (fun h => h2 h.2)]
    exact ⟨_, h3, SlotsAt.nil _, h.2⟩
  · rw [if_neg (by simp), if_neg (by simp)]
    exact ⟨_, h3, SlotsAt.nil _, h.2⟩
def lgL (n : Nat) : List Sl := (List.range n).map fun i => (10 * i, 1)
theorem lgL_succ (n : Nat) : lgL (n + 1) = lgL n ++ [(10 * n, 1)] := by simp [lgL, List.range_succ]
theorem lgL_len (n : Nat) : (lgL n).length = n := by simp [lgL]
theorem lgL_wide {n : Nat} (h : n < 10000) : ∀ x ∈ lgL n, W256 x.1 ∧ W256 x.2 := fun x hx => by
  obtain ⟨i, hi, rfl⟩ := List.mem_map.1 hx
  have := List.mem_range.1 hi
  exact ⟨by unfold W256; omega, by unfold W256; omega⟩
theorem lim_least (n : Nat) (h : n < 18446744073709551616) : lim n 0 = (n : Int) ∧ lim n 1 = 0 ∧ lim n 2 = 0 ∧ lim n 3 = 0 := by
  have h0 : lim n 0 = ((n % 18446744073709551616 : Nat) : Int) := rfl
  have h1 : lim n 1 = ((n / 18446744073709551616 % 18446744073709551616 : Nat) : Int) := rfl
  have h2 : lim n 2 = ((n / 340282366920938463463374607431768211456 % 18446744073709551616 : Nat) : Int) := rfl
  have h3 : lim n 3 = ((n / 6277101735386680763835789423207666416102355444464034512896 % 18446744073709551616 : Nat) : Int) := rfl
  rw [h0, h1, h2, h3]
  exact ⟨by omega, by omega, by omega, by omega⟩
theorem four_of (k : Nat) (h : k < 4) {p : Nat → Prop} (h0 : p 0) (h1 : p 1) (h2 : p 2) (h3 : p 3) : p k := by
  obtain rfl | rfl | rfl | rfl : k = 0 ∨ k = 1 ∨ k = 2 ∨ k = 3 := by omega
  all_goals assumption
theorem three_of (k : Nat) (h : k < 3) {p : Nat → Prop} (h0 : p 0) (h1 : p 1) (h2 : p 2) : p k := by
  obtain rfl | rfl | rfl : k = 0 ∨ k = 1 ∨ k = 2 := by omega
  all_goals assumption
set_option maxRecDepth 100000 in
set_option maxHeartbeats 16000000 in
theorem ttells_ret (W : World) (v0 : Value) (x0 : List Sl) (k0 : SlotsAt W v0 x0) (v1 : Value) (x1 : List (Int × Int)) (k1 : RawAt W v1 x1) (v2 : Value) (x2 : List (Int × Int)) (k2 : RawAt W v2 x2) (nt : Bool) (kk : Nat) (hkk : W256 kk) (vv : Nat) (hvv : W256 vv) (many : Int) (hmany : I64 many) :
    Calls Try.prog 3 #[v0, v1, v2, .bool nt, wv kk, wv vv, .int .i64 many] W fun e w' => e = .returned (.bool true) ∧ Below W.heap.size W w' := by
  have hmx : Try.prog.follows .mixedOrders = true := by kernel_rfl
  have P1 := pick_ret many hmany 25 (by omega) (by omega)
  have r1 := pickN_range many 25 (by omega)
  obtain ⟨q, hq0⟩ : ∃ q : Nat, pickN many 25 = (q : Int) := ⟨_, (Int.toNat_of_nonneg r1.1).symm⟩
  rw [hq0] at P1 r1
  obtain ⟨nl, hnl⟩ : ∃ n : Nat, 980 + (q : Int) = (n : Int) := ⟨980 + q, by omega⟩
  have HNL := Lib.hid (show 980 ≤ nl ∧ nl ≤ 1005 by omega)
  replace P1 := Lib.hid P1
  have hq1 : (0 : Int) ≤ (q : Int) := by omega
  have hq2 : (q : Int) ≤ 25 := by omega
  have hq3 : (nl : Int) ≤ 1005 := by omega
  clear hq0 r1 hmany
  have KA1 := (Has.new W 26 #[.int .u64 (lim kk 0), .int .u64 (lim kk 1), .int .u64 (lim kk 2), .int .u64 (lim kk 3)]).alloc (.cells #[.int .u64 (lim vv 0), .int .u64 (lim vv 1), .int .u64 (lim vv 2), .int .u64 (lim vv 3)] 26)
  have KA2 := Has.new (W.alloc (.cells #[.int .u64 (lim kk 0), .int .u64 (lim kk 1), .int .u64 (lim kk 2), .int .u64 (lim kk 3)] 26)) 26 #[.int .u64 (lim vv 0), .int .u64 (lim vv 1), .int .u64 (lim vv 2), .int .u64 (lim vv 3)]
  simp only [World.size_alloc] at KA2
  have Q0 := ((Below.refl W.heap.size W).alloc (Nat.le_refl _) (.cells #[.int .u64 (lim kk 0), .int .u64 (lim kk 1), .int .u64 (lim kk 2), .int .u64 (lim kk 3)] 26)).alloc (by simp) (.cells #[.int .u64 (lim vv 0), .int .u64 (lim vv 1), .int .u64 (lim vv 2), .int .u64 (lim vv 3)] 26)
  have H0 := Lib.hid (k0.later Q0)
  have H1 := Lib.hid (k1.later Q0)
  have H2 := Lib.hid (k2.later Q0)
  have W0 := Lib.hid (And.intro hkk hvv)
  clear k0 k1 k2 hkk hvv
  unfold wv
  obtain ⟨w0, hV⟩ : ∃ V, (W.alloc (.cells #[.int .u64 (lim kk 0), .int .u64 (lim kk 1), .int .u64 (lim kk 2), .int .u64 (lim kk 3)] 26)).alloc (.cells #[.int .u64 (lim vv 0), .int .u64 (lim vv 1), .int .u64 (lim vv 2), .int .u64 (lim vv 3)] 26) = V := ⟨_, rfl⟩
  rw [hV] at KA1 KA2 Q0 H0 H1 H2
  have HA := Lib.hid (awake_any w0)
  have K1 := Lib.hid KA1
  have K2 := Lib.hid KA2
  have Q := Lib.hid Q0
  clear KA1 KA2 Q0
  obtain ⟨an, cn, rfl, hc1, hc2⟩ := H0.out.shape
  have HX0 := Lib.hid H0.out
  clear H0
  obtain ⟨nx, hnx⟩ : ∃ n, x0.length = n := ⟨_, rfl⟩
  rw [hnx] at HX0 hc1 ⊢
  have HNX := Lib.hid (And.intro hnx (Nat.le_trans hc1 hc2))
  have HCN := Lib.hid (And.intro hc1 hc2)
  clear hnx hc1 hc2
  have hnx2 : (nx : Int) ≤ (cn : Int) := by have := HCN.out.1; omega
  have hcn2 : (cn : Int) ≤ 9223372036854775807 := by have := HCN.out.2; omega
  have hnx0 : (0 : Int) ≤ (nx : Int) := by omega
  go_enter Try.func3, Try.ntmps3
  go_wp2_with fail
  refine HA.out.mono ?_
  clear hV
  rintro e w1 ⟨rfl, hq⟩
  have Q' := Lib.hid (Q.out.trans (hq.mono Q.out.size))
  clear Q
  have Q := Q'
  clear Q'
  have K1' := Lib.hid (K1.out.later hq)
  clear K1
  have K1 := K1'
  clear K1'
  have K2' := Lib.hid (K2.out.later hq)
  clear K2
  have K2 := K2'
  clear K2'
  have HX0' := Lib.hid (HX0.out.later hq)
  clear HX0
  have HX0 := HX0'
  clear HX0'
  have H1' := Lib.hid (H1.out.later hq)
  clear H1
  have H1 := H1'
  clear H1'
  have H2' := Lib.hid (H2.out.later hq)
  clear H2
  have H2 := H2'
  clear H2'
  clear hq HA
  go_upto_if 37 with fail
  go_cut [16] from 16 to 171 (fun u wx => w1 = wx ∧ ∃ l, SlotsAt w1 u l)
  case first =>
    by_cases h40 : nx ≤ 40
    · have h40I : ¬ 40 < (nx : Int) := by omega
      clear h40
      go_wp2_with fail
      go_meet
      exact ⟨rfl, _, HX0.out⟩
    · have h40I : 40 < (nx : Int) := by omega
      have h40c : 40 ≤ (cn : Int) := by omega
      have HT := Lib.hid (HX0.out.take 40 (by omega))
      clear h40
      go_wp2_with fail
      go_meet
      exact ⟨rfl, _, HT.out⟩
  case rest =>
    obtain ⟨rfl, lX, hX⟩ := hcut
    obtain ⟨aX, cX, rfl, _⟩ := hX.shape
    have RX := Lib.hid hX
    clear hX HX0
    have hc := slots_raw w1 v1 x1 H1.out false
    go_wp2_with fail
    refine hc.mono ?_
    clear hc
    rintro e w2 ⟨vA, lA, rfl, hrow, hr, hw, hl, hz, hq⟩
    have hsl := hrow.slots hw
    obtain ⟨aA, cA, rfl, _⟩ := hsl.shape
    have Q' := Lib.hid (Q.out.trans (hq.mono Q.out.size))
    clear Q
    have Q := Q'
    clear Q'
    have K1' := Lib.hid (K1.out.later hq)
    clear K1
    have K1 := K1'
    clear K1'
    have K2' := Lib.hid (K2.out.later hq)
    clear K2
    have K2 := K2'
    clear K2'
    have H1' := Lib.hid (H1.out.later hq)
    clear H1
    have H1 := H1'
    clear H1'
    have H2' := Lib.hid (H2.out.later hq)
    clear H2
    have H2 := H2'
    clear H2'
    have RX' := Lib.hid (RX.out.later hq)
    clear RX
    have RX := RX'
    clear RX'
    have RA := Lib.hid hsl
    clear hsl hrow hr hw hl hz hq
    have hc := slots_raw w2 v2 x2 H2.out nt
    go_wp2_with fail
    refine hc.mono ?_
    clear hc
    rintro e w3 ⟨vB, lB, rfl, hrow, hr, hw, hl, hz, hq⟩
    have hsl := hrow.slots hw
    obtain ⟨aB, cB, rfl, _⟩ := hsl.shape
    have Q' := Lib.hid (Q.out.trans (hq.mono Q.out.size))
    clear Q
    have Q := Q'
    clear Q'
    have K1' := Lib.hid (K1.out.later hq)
    clear K1
    have K1 := K1'
    clear K1'
    have K2' := Lib.hid (K2.out.later hq)
    clear K2
    have K2 := K2'
    clear K2'
    have H1' := Lib.hid (H1.out.later hq)
    clear H1
    have H1 := H1'
    clear H1'
    have H2' := Lib.hid (H2.out.later hq)
    clear H2
    have H2 := H2'
    clear H2'
    have RX' := Lib.hid (RX.out.later hq)
    clear RX
    have RX := RX'
    clear RX'
    have RA' := Lib.hid (RA.out.later hq)
    clear RA
    have RA := RA'
    clear RA'
    have RB := Lib.hid hsl
    clear hsl hrow hr hw hl hz hq
    clear H1 H2
    go_wp2_with fail
    go_loopw [19, 20] (fun lv i wr => ∃ j : Nat, j ≤ nl ∧ i = .int .i64 (j : Int) ∧ RowT wr w3.heap.size lv (lgL j) ∧ Below w3.heap.size w3 wr) (fun _ i _ => nl - (intOf i).toNat)
    case atStart => exact ⟨0, by omega, rfl, ⟨rfl, .inl ⟨rfl, rfl⟩⟩, Below.refl _ _⟩
    case round =>
      obtain ⟨j, hj, rfl, hrow, hq⟩ := hrel
      have HR := Lib.hid hrow
      have HQ := Lib.hid hq
      clear hrow hq
      go_wp2_with fail
      refine (P1.out _).mono ?_
      rintro e wa ⟨rfl, hb⟩
      have HR1 := Lib.hid (HR.out.later hb)
      have HQ1 := Lib.hid (HQ.out.trans (hb.mono HQ.out.size))
      clear hb HR HQ
      have hj0 : (0 : Int) ≤ (j : Int) := by omega
      have hjb : (j : Int) ≤ 1005 := by omega
      by_cases hjn : j < nl
      · have hjI : (j : Int) < (nl : Int) := by omega
        have HJ := Lib.hid hjn
        have hwr : IntKind.u64.wrap (10 * (j : Int)) = 10 * (j : Int) := by rw [IntKind.wrap_u64]; omega
        have hl1 := lim_least (10 * j) (by have := HNL.out; omega)
        have hl2 := lim_least 1 (by omega)
        obtain ⟨v', w', hr0, hrw, hbw⟩ := push_slot wa w3.heap.size u19 (lgL j) HR1.out HQ1.out.size (by rw [lgL_len]; have := HNL.out; have := HJ.out; omega) (10 * j, 1)
        simp only [slC, hl1.1, hl1.2.1, hl1.2.2.1, hl1.2.2.2, hl2.1, hl2.2.1, hl2.2.2.1, hl2.2.2.2] at hr0
        rw [show ((10 * j : Nat) : Int) = 10 * (j : Int) by omega, show ((1 : Nat) : Int) = 1 from rfl] at hr0
        have hr : (Builtin.append_ #[22, 22] 22 #[u19, .slice (some ⟨wa.heap.size, 0, none⟩) 1 1]).run Try.prog (wa.alloc (.cells #[.int .u64 (10 * (j : Int)), .int .u64 0, .int .u64 0, .int .u64 0, .int .u64 1, .int .u64 0, .int .u64 0, .int .u64 0] 31)) = .ok v' w' := hr0
        rw [← lgL_succ] at hrw
        have R3 := Lib.hid hrw
        have Q3 := Lib.hid (HQ1.out.trans hbw)
        clear hr0 hrw hbw hl1 hl2 hjn hj
        go_wp2_with (at_builtin; refine wpList_append_run rfl (.tmp 52) (.tmp 59) 22 rfl _ _ _ rfl rfl hr ?_)
        clear hr
        go_roundw
        case rel => exact ⟨j + 1, by have := HJ.out; omega, by simp, R3.out, Q3.out⟩
        case measure => have := HJ.out; simp [intOf]; omega
      · have hjI : ¬ (j : Int) < (nl : Int) := by omega
        obtain rfl : j = nl := by omega
        have hsl := HR1.out.slots (lgL_wide (by have := HNL.out; omega))
        obtain ⟨aL, cL, rfl, _⟩ := hsl.shape
        have hq := HQ1.out
        have Q' := Lib.hid (Q.out.trans (hq.mono Q.out.size))
        clear Q
        have Q := Q'
        clear Q'
        have K1' := Lib.hid (K1.out.later hq)
        clear K1
        have K1 := K1'
        clear K1'
        have K2' := Lib.hid (K2.out.later hq)
        clear K2
        have K2 := K2'
        clear K2'
        have RX' := Lib.hid (RX.out.later hq)
        clear RX
        have RX := RX'
        clear RX'
        have RA' := Lib.hid (RA.out.later hq)
        clear RA
        have RA := RA'
        clear RA'
        have RB' := Lib.hid (RB.out.later hq)
        clear RB
        have RB := RB'
        clear RB'
        have RL := Lib.hid hsl
        clear hq hsl HR1 HQ1 hjI hj hjn hj0 hjb P1
        have BX := Lib.hid (Has.new wa 22 #[.slice aX lX.length cX, .slice aA lA.length cA, .slice aB lB.length cB, .slice aL (lgL j).length cL])
        obtain ⟨B, hB⟩ : ∃ B, wa.heap.size = B := ⟨_, rfl⟩
        have hq := (Below.refl wa.heap.size wa).alloc (Nat.le_refl _) (.cells #[.slice aX lX.length cX, .slice aA lA.length cA, .slice aB lB.length cB, .slice aL (lgL j).length cL] 22)
        obtain ⟨wc, hwc⟩ : ∃ wc, wa.alloc (.cells #[.slice aX lX.length cX, .slice aA lA.length cA, .slice aB lB.length cB, .slice aL (lgL j).length cL] 22) = wc := ⟨_, rfl⟩
        rw [hwc] at hq BX
        have Q' := Lib.hid (Q.out.trans (hq.mono Q.out.size))
        clear Q
        have Q := Q'
        clear Q'
        have K1' := Lib.hid (K1.out.later hq)
        clear K1
        have K1 := K1'
        clear K1'
        have K2' := Lib.hid (K2.out.later hq)
        clear K2
        have K2 := K2'
        clear K2'
        have RX' := Lib.hid (RX.out.later hq)
        clear RX
        have RX := RX'
        clear RX'
        have RA' := Lib.hid (RA.out.later hq)
        clear RA
        have RA := RA'
        clear RA'
        have RB' := Lib.hid (RB.out.later hq)
        clear RB
        have RB := RB'
        clear RB'
        have RL' := Lib.hid (RL.out.later hq)
        clear RL
        have RL := RL'
        clear RL'
        clear hq
        rw [hB] at BX
        have HC := Lib.hid (show ∀ k : Nat, k < 4 → ∃ v l, (∀ X : World, Below wc.heap.size wc X → X.cell? ⟨B, k, none⟩ = some v) ∧ SlotsAt wc v l from fun k hk => by
          have c0 := fun (X : World) (hX : Below wc.heap.size wc X) => (BX.out.later hX).cell 0 _ rfl
          have c1 := fun (X : World) (hX : Below wc.heap.size wc X) => (BX.out.later hX).cell 1 _ rfl
          have c2 := fun (X : World) (hX : Below wc.heap.size wc X) => (BX.out.later hX).cell 2 _ rfl
          have c3 := fun (X : World) (hX : Below wc.heap.size wc X) => (BX.out.later hX).cell 3 _ rfl
          exact four_of k hk (p := fun k => ∃ v l, (∀ X : World, Below wc.heap.size wc X → X.cell? ⟨B, k, none⟩ = some v) ∧ SlotsAt wc v l) ⟨_, _, c0, RX.out⟩ ⟨_, _, c1, RA.out⟩ ⟨_, _, c2, RB.out⟩ ⟨_, _, c3, RL.out⟩)
        clear BX
        go_wp2_with fail
        clear hB hwc
        go_loopw [67] (fun i wr => ∃ k : Nat, k ≤ 4 ∧ i = .int .i64 (k : Int) ∧ Below wc.heap.size wc wr) (fun i _ => 4 - (intOf i).toNat)
        case atStart => exact ⟨0, by omega, rfl, Below.refl _ _⟩
        case round =>
          obtain ⟨k, hk, rfl, hq⟩ := hrel
          obtain ⟨wo, hwo⟩ : ∃ wo, wo = wr := ⟨_, rfl⟩
          subst hwo
          have HQO := Lib.hid hq
          have Q' := Lib.hid (Q.out.trans (hq.mono Q.out.size))
          clear Q
          have Q := Q'
          clear Q'
          have K1' := Lib.hid (K1.out.later hq)
          clear K1
          have K1 := K1'
          clear K1'
          have K2' := Lib.hid (K2.out.later hq)
          clear K2
          have K2 := K2'
          clear K2'
          have RX' := Lib.hid (RX.out.later hq)
          clear RX
          have RX := RX'
          clear RX'
          have RA' := Lib.hid (RA.out.later hq)
          clear RA
          have RA := RA'
          clear RA'
          have RB' := Lib.hid (RB.out.later hq)
          clear RB
          have RB := RB'
          clear RB'
          have RL' := Lib.hid (RL.out.later hq)
          clear RL
          have RL := RL'
          clear RL'
          clear hq
          by_cases hk4 : k < 4
          · have hkI : (k : Int) < 4 := by omega
            have hk0 : (0 : Int) ≤ (k : Int) := by omega
            obtain ⟨v, l, hcell, hsl⟩ := HC.out k hk4
            have hc := hcell wo HQO.out
            have SL := Lib.hid (hsl.later HQO.out)
            have HK := Lib.hid hk4
            clear hcell hsl hk hk4
            have G1 := Lib.hid (fun z : Ext wo => Ext.at (right_slots z.w v l (SL.out.later z.below)))
            have G2 := Lib.hid (fun z : Ext wo => Ext.at (refRight_any z.w v l (SL.out.later z.below)))
            have G3 := Lib.hid (fun z : Ext wo => Ext.at (patch_any z.w v l (SL.out.later z.below)))
            have G4 := Lib.hid (fun z : Ext wo => Ext.at (refPatch_any z.w v l (SL.out.later z.below)))
            have G5 := Lib.hid (fun z : Ext wo => Ext.at (get_any z.w v l (SL.out.later z.below) kk W0.out.1))
            have G6 := Lib.hid (fun z : Ext wo => Ext.at (refGet_any z.w v l (SL.out.later z.below) kk W0.out.1))
            unfold wv at G5 G6
            obtain ⟨rb, hrb⟩ : ∃ rb, rightB' l = rb := ⟨_, rfl⟩
            obtain ⟨pb, hpb⟩ : ∃ pb, patchB l = pb := ⟨_, rfl⟩
            rw [hrb] at G1 G2
            rw [hpb] at G3 G4
            clear hrb hpb
            generalize look l kk = gv at *
            have a0 := fun z : Ext wo => (K1.out.later z.below).cell 0 _ rfl
            have a1 := fun z : Ext wo => (K1.out.later z.below).cell 1 _ rfl
            have a2 := fun z : Ext wo => (K1.out.later z.below).cell 2 _ rfl
            have a3 := fun z : Ext wo => (K1.out.later z.below).cell 3 _ rfl
            go_wp2_with fail
            refine wp_region_quietL (C := Grows wo) hmx (by kernel_rfl) (grows_refl wo) ?_
            repeat (go_big_quiet_step (first | (with_reducible exact G1.out _) | (with_reducible exact G2.out _) | (with_reducible exact G3.out _) | (with_reducible exact G4.out _) | (with_reducible exact G5.out _) | (with_reducible exact G6.out _)))
            refine wpQuiet_nil ?_
            rintro _ ⟨z, rfl⟩
            obtain ⟨wz, hwz⟩ : ∃ wz, z.w = wz := ⟨_, rfl⟩
            have hq := z.below
            rw [hwz] at hq ⊢
            clear hwz z a0 a1 a2 a3 G1 G2 G3 G4 G5 G6 hc
            have HQI := Lib.hid (HQO.out.trans (hq.mono HQO.out.size))
            have Q' := Lib.hid (Q.out.trans (hq.mono Q.out.size))
            clear Q
            have Q := Q'
            clear Q'
            have K1' := Lib.hid (K1.out.later hq)
            clear K1
            have K1 := K1'
            clear K1'
            have K2' := Lib.hid (K2.out.later hq)
            clear K2
            have K2 := K2'
            clear K2'
            have RX' := Lib.hid (RX.out.later hq)
            clear RX
            have RX := RX'
            clear RX'
            have RA' := Lib.hid (RA.out.later hq)
            clear RA
            have RA := RA'
            clear RA'
            have RB' := Lib.hid (RB.out.later hq)
            clear RB
            have RB := RB'
            clear RB'
            have RL' := Lib.hid (RL.out.later hq)
            clear RL
            have RL := RL'
            clear RL'
            have SL' := Lib.hid (SL.out.later hq)
            clear SL
            have SL := SL'
            clear SL'
            clear hq
            have a0 := K1.out.cell 0 _ rfl
            have b0 := K2.out.cell 0 _ rfl
            have a1 := K1.out.cell 1 _ rfl
            have b1 := K2.out.cell 1 _ rfl
            have a2 := K1.out.cell 2 _ rfl
            have b2 := K2.out.cell 2 _ rfl
            have a3 := K1.out.cell 3 _ rfl
            have b3 := K2.out.cell 3 _ rfl
            have hc := put_any wz v l SL.out kk vv W0.out.1 W0.out.2
            unfold wv at hc
            go_wp2_with fail
            refine hc.mono ?_
            clear hc a0 a1 a2 a3 b0 b1 b2 b3
            intro e wp hd
            obtain ⟨p1, rfl, hsl, hq⟩ := hd.told (putL_wide (x := (kk, vv)) SL.out.wideAll W0.out)
            have HQI' := Lib.hid (HQI.out.trans (hq.mono HQI.out.size))
            clear HQI
            have HQI := HQI'
            clear HQI'
            have Q' := Lib.hid (Q.out.trans (hq.mono Q.out.size))
            clear Q
            have Q := Q'
            clear Q'
            have K1' := Lib.hid (K1.out.later hq)
            clear K1
            have K1 := K1'
            clear K1'
            have K2' := Lib.hid (K2.out.later hq)
            clear K2
            have K2 := K2'
            clear K2'
            have RX' := Lib.hid (RX.out.later hq)
            clear RX
            have RX := RX'
            clear RX'
            have RA' := Lib.hid (RA.out.later hq)
            clear RA
            have RA := RA'
            clear RA'
            have RB' := Lib.hid (RB.out.later hq)
            clear RB
            have RB := RB'
            clear RB'
            have RL' := Lib.hid (RL.out.later hq)
            clear RL
            have RL := RL'
            clear RL'
            have SL' := Lib.hid (SL.out.later hq)
            clear SL
            have SL := SL'
            clear SL'
            have Rp1 := Lib.hid hsl
            clear hq hsl hd
            have a0 := K1.out.cell 0 _ rfl
            have b0 := K2.out.cell 0 _ rfl
            have a1 := K1.out.cell 1 _ rfl
            have b1 := K2.out.cell 1 _ rfl
            have a2 := K1.out.cell 2 _ rfl
            have b2 := K2.out.cell 2 _ rfl
            have a3 := K1.out.cell 3 _ rfl
            have b3 := K2.out.cell 3 _ rfl
            have hc := refPut_any wp v l SL.out kk vv W0.out.1 W0.out.2
            unfold wv at hc
            go_wp2_with fail
            refine hc.mono ?_
            clear hc a0 a1 a2 a3 b0 b1 b2 b3
            intro e wq hd
            obtain ⟨p2, rfl, hsl, hq⟩ := hd.told (putL_wide (x := (kk, vv)) SL.out.wideAll W0.out)
            have HQI' := Lib.hid (HQI.out.trans (hq.mono HQI.out.size))
            clear HQI
            have HQI := HQI'
            clear HQI'
            have Q' := Lib.hid (Q.out.trans (hq.mono Q.out.size))
            clear Q
            have Q := Q'
            clear Q'
            have K1' := Lib.hid (K1.out.later hq)
            clear K1
            have K1 := K1'
            clear K1'
            have K2' := Lib.hid (K2.out.later hq)
            clear K2
            have K2 := K2'
            clear K2'
            have RX' := Lib.hid (RX.out.later hq)
            clear RX
            have RX := RX'
            clear RX'
            have RA' := Lib.hid (RA.out.later hq)
            clear RA
            have RA := RA'
            clear RA'
            have RB' := Lib.hid (RB.out.later hq)
            clear RB
            have RB := RB'
            clear RB'
            have RL' := Lib.hid (RL.out.later hq)
            clear RL
            have RL := RL'
            clear RL'
            have SL' := Lib.hid (SL.out.later hq)
            clear SL
            have SL := SL'
            clear SL'
            have Rp1' := Lib.hid (Rp1.out.later hq)
            clear Rp1
            have Rp1 := Rp1'
            clear Rp1'
            have Rp2 := Lib.hid hsl
            clear hq hsl hd
            have hc := same_any wq p1 p2 _ _ Rp1.out Rp2.out
            rw [decide_eq_true rfl] at hc
            generalize toldE (rightB' l) (mergeL l [(kk, vv)]) = te at *
            go_wp2_with fail
            refine hc.mono ?_
            clear hc
            rintro e ws ⟨rfl, hq⟩
            have HQI' := Lib.hid (HQI.out.trans (hq.mono HQI.out.size))
            clear HQI
            have HQI := HQI'
            clear HQI'
            have Q' := Lib.hid (Q.out.trans (hq.mono Q.out.size))
            clear Q
            have Q := Q'
            clear Q'
            have K1' := Lib.hid (K1.out.later hq)
            clear K1
            have K1 := K1'
            clear K1'
            have K2' := Lib.hid (K2.out.later hq)
            clear K2
            have K2 := K2'
            clear K2'
            have RX' := Lib.hid (RX.out.later hq)
            clear RX
            have RX := RX'
            clear RX'
            have RA' := Lib.hid (RA.out.later hq)
            clear RA
            have RA := RA'
            clear RA'
            have RB' := Lib.hid (RB.out.later hq)
            clear RB
            have RB := RB'
            clear RB'
            have RL' := Lib.hid (RL.out.later hq)
            clear RL
            have RL := RL'
            clear RL'
            have SL' := Lib.hid (SL.out.later hq)
            clear SL
            have SL := SL'
            clear SL'
            have Rp1' := Lib.hid (Rp1.out.later hq)
            clear Rp1
            have Rp1 := Rp1'
            clear Rp1'
            have Rp2' := Lib.hid (Rp2.out.later hq)
            clear Rp2
            have Rp2 := Rp2'
            clear Rp2'
            clear hq
            clear Rp1 Rp2
            have BX := Lib.hid (Has.new ws 22 #[.slice aA lA.length cA, .slice aB lB.length cB, .slice aX lX.length cX])
            obtain ⟨B2, hB2⟩ : ∃ B, ws.heap.size = B := ⟨_, rfl⟩
            have hq := (Below.refl ws.heap.size ws).alloc (Nat.le_refl _) (.cells #[.slice aA lA.length cA, .slice aB lB.length cB, .slice aX lX.length cX] 22)
            obtain ⟨wi, hwi⟩ : ∃ wc, ws.alloc (.cells #[.slice aA lA.length cA, .slice aB lB.length cB, .slice aX lX.length cX] 22) = wc := ⟨_, rfl⟩
            rw [hwi] at hq BX
            have HQI' := Lib.hid (HQI.out.trans (hq.mono HQI.out.size))
            clear HQI
            have HQI := HQI'
            clear HQI'
            have Q' := Lib.hid (Q.out.trans (hq.mono Q.out.size))
            clear Q
            have Q := Q'
            clear Q'
            have K1' := Lib.hid (K1.out.later hq)
            clear K1
            have K1 := K1'
            clear K1'
            have K2' := Lib.hid (K2.out.later hq)
            clear K2
            have K2 := K2'
            clear K2'
            have RX' := Lib.hid (RX.out.later hq)
            clear RX
            have RX := RX'
            clear RX'
            have RA' := Lib.hid (RA.out.later hq)
            clear RA
            have RA := RA'
            clear RA'
            have RB' := Lib.hid (RB.out.later hq)
            clear RB
            have RB := RB'
            clear RB'
            have RL' := Lib.hid (RL.out.later hq)
            clear RL
            have RL := RL'
            clear RL'
            have SL' := Lib.hid (SL.out.later hq)
            clear SL
            have SL := SL'
            clear SL'
            clear hq
            rw [hB2] at BX
            have HD := Lib.hid (show ∀ k : Nat, k < 3 → ∃ v l, (∀ X : World, Below wi.heap.size wi X → X.cell? ⟨B2, k, none⟩ = some v) ∧ SlotsAt wi v l from fun k hk => by
              have c0 := fun (X : World) (hX : Below wi.heap.size wi X) => (BX.out.later hX).cell 0 _ rfl
              have c1 := fun (X : World) (hX : Below wi.heap.size wi X) => (BX.out.later hX).cell 1 _ rfl
              have c2 := fun (X : World) (hX : Below wi.heap.size wi X) => (BX.out.later hX).cell 2 _ rfl
              exact three_of k hk (p := fun k => ∃ v l, (∀ X : World, Below wi.heap.size wi X → X.cell? ⟨B2, k, none⟩ = some v) ∧ SlotsAt wi v l) ⟨_, _, c0, RA.out⟩ ⟨_, _, c1, RB.out⟩ ⟨_, _, c2, RX.out⟩)
            clear BX
            go_wp2_with fail
            clear hB2 hwi
            go_loopw [120] (fun i wr => ∃ j : Nat, j ≤ 3 ∧ i = .int .i64 (j : Int) ∧ Below wi.heap.size wi wr) (fun i _ => 3 - (intOf i).toNat)
            case atStart => exact ⟨0, by omega, rfl, Below.refl _ _⟩
            case round =>
              obtain ⟨j, hj, rfl, hq⟩ := hrel
              have HQJ := Lib.hid hq
              have HQK := Lib.hid (HQI.out.trans (hq.mono HQI.out.size))
              have SLJ := Lib.hid (SL.out.later hq)
              clear hq
              by_cases hj3 : j < 3
              · have hjI : (j : Int) < 3 := by omega
                have hj0 : (0 : Int) ≤ (j : Int) := by omega
                obtain ⟨u, m, hcell, hsl⟩ := HD.out j hj3
                have hc := hcell wr HQJ.out
                have SM := Lib.hid (hsl.later HQJ.out)
                have HJ := Lib.hid hj3
                clear hcell hsl hj hj3
                have hd0 := merge_any wr v u l m SLJ.out SM.out
                go_wp2_with fail
                refine hd0.mono ?_
                clear hd0 hc
                intro e y1 hd
                obtain ⟨q1, rfl, hsl, hq⟩ := hd.told (mergeL_wide l m SLJ.out.wideAll SM.out.wideAll)
                have HQJ' := Lib.hid (HQJ.out.trans (hq.mono HQJ.out.size))
                clear HQJ
                have HQJ := HQJ'
                clear HQJ'
                have SLJ' := Lib.hid (SLJ.out.later hq)
                clear SLJ
                have SLJ := SLJ'
                clear SLJ'
                have SM' := Lib.hid (SM.out.later hq)
                clear SM
                have SM := SM'
                clear SM'
                have Rq1 := Lib.hid hsl
                clear hq hsl hd
                have hd0 := refMerge_any y1 v u l m SLJ.out SM.out
                go_wp2_with fail
                refine hd0.mono ?_
                clear hd0
                intro e y2 hd
                obtain ⟨q2, rfl, hsl, hq⟩ := hd.told (mergeL_wide l m SLJ.out.wideAll SM.out.wideAll)
                have HQJ' := Lib.hid (HQJ.out.trans (hq.mono HQJ.out.size))
                clear HQJ
                have HQJ := HQJ'
                clear HQJ'
                have SLJ' := Lib.hid (SLJ.out.later hq)
                clear SLJ
                have SLJ := SLJ'
                clear SLJ'
                have SM' := Lib.hid (SM.out.later hq)
                clear SM
                have SM := SM'
                clear SM'
                have Rq1' := Lib.hid (Rq1.out.later hq)
                clear Rq1
                have Rq1 := Rq1'
                clear Rq1'
                have Rq2 := Lib.hid hsl
                clear hq hsl hd
                have hd0 := diff_any y2 v u l m SLJ.out SM.out
                go_wp2_with fail
                refine hd0.mono ?_
                clear hd0
                intro e y3 hd
                obtain ⟨q3, rfl, hsl, hq⟩ := hd.told (diffL_wide l m SLJ.out.wideAll SM.out.wideAll)
                have HQJ' := Lib.hid (HQJ.out.trans (hq.mono HQJ.out.size))
                clear HQJ
                have HQJ := HQJ'
                clear HQJ'
                have SLJ' := Lib.hid (SLJ.out.later hq)
                clear SLJ
                have SLJ := SLJ'
                clear SLJ'
                have SM' := Lib.hid (SM.out.later hq)
                clear SM
                have SM := SM'
                clear SM'
                have Rq1' := Lib.hid (Rq1.out.later hq)
                clear Rq1
                have Rq1 := Rq1'
                clear Rq1'
                have Rq2' := Lib.hid (Rq2.out.later hq)
                clear Rq2
                have Rq2 := Rq2'
                clear Rq2'
                have Rq3 := Lib.hid hsl
                clear hq hsl hd
                have hd0 := refDiff_any y3 v u l m SLJ.out SM.out
                go_wp2_with fail
                refine hd0.mono ?_
                clear hd0
                intro e y4 hd
                obtain ⟨q4, rfl, hsl, hq⟩ := hd.told (diffL_wide l m SLJ.out.wideAll SM.out.wideAll)
                have HQJ' := Lib.hid (HQJ.out.trans (hq.mono HQJ.out.size))
                clear HQJ
                have HQJ := HQJ'
                clear HQJ'
                have SLJ' := Lib.hid (SLJ.out.later hq)
                clear SLJ
                have SLJ := SLJ'
                clear SLJ'
                have SM' := Lib.hid (SM.out.later hq)
                clear SM
                have SM := SM'
                clear SM'
                have Rq1' := Lib.hid (Rq1.out.later hq)
                clear Rq1
                have Rq1 := Rq1'
                clear Rq1'
                have Rq2' := Lib.hid (Rq2.out.later hq)
                clear Rq2
                have Rq2 := Rq2'
                clear Rq2'
                have Rq3' := Lib.hid (Rq3.out.later hq)
                clear Rq3
                have Rq3 := Rq3'
                clear Rq3'
                have Rq4 := Lib.hid hsl
                clear hq hsl hd
                generalize toldE (rightB' l && patchB m) (mergeL l m) = t1 at *
                generalize toldE (rightB' l && rightB' m) (diffL l m) = t2 at *
                have hc := same_any y4 q1 q2 _ _ Rq1.out Rq2.out
                rw [decide_eq_true rfl] at hc
                go_wp2_with fail
                refine hc.mono ?_
                clear hc
                rintro e y5 ⟨rfl, hq⟩
                have HQJ' := Lib.hid (HQJ.out.trans (hq.mono HQJ.out.size))
                clear HQJ
                have HQJ := HQJ'
                clear HQJ'
                have SLJ' := Lib.hid (SLJ.out.later hq)
                clear SLJ
                have SLJ := SLJ'
                clear SLJ'
                have SM' := Lib.hid (SM.out.later hq)
                clear SM
                have SM := SM'
                clear SM'
                have Rq1' := Lib.hid (Rq1.out.later hq)
                clear Rq1
                have Rq1 := Rq1'
                clear Rq1'
                have Rq2' := Lib.hid (Rq2.out.later hq)
                clear Rq2
                have Rq2 := Rq2'
                clear Rq2'
                have Rq3' := Lib.hid (Rq3.out.later hq)
                clear Rq3
                have Rq3 := Rq3'
                clear Rq3'
                have Rq4' := Lib.hid (Rq4.out.later hq)
                clear Rq4
                have Rq4 := Rq4'
                clear Rq4'
                have hc := same_any y5 q3 q4 _ _ Rq3.out Rq4.out
                rw [decide_eq_true rfl] at hc
                go_wp2_with fail
                refine hc.mono ?_
                clear hc
                rintro e y6 ⟨rfl, hq⟩
                have HQJ' := Lib.hid (HQJ.out.trans (hq.mono HQJ.out.size))
                clear HQJ
                have HQJ := HQJ'
                clear HQJ'
                have SLJ' := Lib.hid (SLJ.out.later hq)
                clear SLJ
                have SLJ := SLJ'
                clear SLJ'
                have SM' := Lib.hid (SM.out.later hq)
                clear SM
                have SM := SM'
                clear SM'
                have Rq1' := Lib.hid (Rq1.out.later hq)
                clear Rq1
                have Rq1 := Rq1'
                clear Rq1'
                have Rq2' := Lib.hid (Rq2.out.later hq)
                clear Rq2
                have Rq2 := Rq2'
                clear Rq2'
                have Rq3' := Lib.hid (Rq3.out.later hq)
                clear Rq3
                have Rq3 := Rq3'
                clear Rq3'
                have Rq4' := Lib.hid (Rq4.out.later hq)
                clear Rq4
                have Rq4 := Rq4'
                clear Rq4'
                clear hq
                go_wp2_with fail
                go_roundw
                case rel => exact ⟨j + 1, by have := HJ.out; omega, by simp, HQJ.out⟩
                case measure => have := HJ.out; simp [intOf]; omega
              · have hjI : ¬ (j : Int) < 3 := by omega
                clear hj hj3
                go_wp2_with fail
                go_roundw
                case rel => exact ⟨k + 1, by have := HK.out; omega, by simp, HQK.out⟩
                case measure => have := HK.out; simp [intOf]; omega
          · have hkI : ¬ (k : Int) < 4 := by omega
            clear hk hk4
            go_wp2_with fail
            go_ret
            exact ⟨rfl, Q.out⟩
end Go.Proofs.Ytcannohmbaaceaa
