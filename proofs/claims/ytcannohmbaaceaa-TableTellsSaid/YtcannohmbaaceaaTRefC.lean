/- The document's answer for tables: Merge and Put. Conditions: the slots lie in memory. -/
import Derived.Test.YtcannohmbaaceaaTRefB
import Derived.Deep.Upon
namespace Go.Proofs.Ytcannohmbaaceaa
open Go Go.RowKit
attribute [local go_sem] Oper.semAt_some Grows wide_fn eq4

theorem slC_one (x : Sl) : ∀ u ∈ slC x, u.oneCell' = true := by simp [slC, Value.oneCell']
theorem putsL_wide' {a l : List Sl} (ha : ∀ x ∈ a, W256 x.1 ∧ W256 x.2) (hl : ∀ x ∈ l, W256 x.1 ∧ W256 x.2) : ∀ x ∈ putsL a l, W256 x.1 ∧ W256 x.2 := by
  induction l generalizing a with
  | nil => exact ha
  | cons y r ih => exact ih (putL_wide ha (hl y (List.mem_cons_self ..))) (fun x hx => hl x (List.mem_cons_of_mem _ hx))
set_option maxRecDepth 100000 in
/-- All slots copied to a row of the call's own. -/
theorem copy_slots (A : World) (sv : Value) (l : List Sl) (h : SlotsAt A sv l) (hl : l.length ≤ 100000) :
    ∃ v' w', (Builtin.append_ #[22, 22] 22 #[.slice none 0 0, sv]).run Try.prog A = .ok v' w' ∧ RowT w' A.heap.size v' l ∧ Below A.heap.size A w' := by
  obtain ⟨a, cap, rfl, h2, h3, h4, h5⟩ := h
  obtain ⟨i, hi, hz, hsize, hby⟩ := infoS_of
  cases l with
  | nil =>
    refine ⟨_, _, run_append_nothing (P := Try.prog) A 22 22 22 31 i Try.underlying22 hi none 0 0 (Nat.le_refl _) (.slice a 0 cap) ?_, ⟨rfl, .inl ⟨rfl, rfl⟩⟩, Below.refl _ _⟩
    cases a with
    | none => exact Src.ofNil _ Try.underlying22 cap
    | some b => exact Src.ofSlice _ Try.underlying22 b 0 cap [] (by simp) (fun j u hj => by simp at hj) (fun u hu => by cases hu)
  | cons x r =>
    obtain ⟨b, rfl, _⟩ := h5 0 x rfl
    obtain ⟨v', w', hr, hown, hgr, hnb⟩ := run_append_src (P := Try.prog) A A.heap.size 22 22 22 31 i _ 8 64 Try.underlying22 hi hz hsize hby rfl (by decide) (.slice none 0 0) 0 [] (World.ownsRow_nil _ _ _ _) (.slice (some b) (x :: r).length cap) (x :: r).length (by simp) (flat8 (x :: r)) (by
      rw [hsize]
      refine Src.ofSlice _ Try.underlying22 b _ cap _ (flat8_length _) (fun j u hj => ?_) (fun u hu => ?_)
      · have hj8 : j < (x :: r).length * 8 := by
          have := (List.getElem?_eq_some_iff.1 hj).1
          rwa [flat8_length] at this
        obtain ⟨y, hy⟩ : ∃ y, (x :: r)[j / 8]? = some y := ⟨_, List.getElem?_eq_getElem (by omega)⟩
        obtain ⟨b', hb', hc⟩ := h5 (j / 8) y hy
        injection hb' with hb'
        subst hb'
        have h8 := hc (j % 8) (by omega)
        have hf := flat8_at (x :: r) (j / 8) y (j % 8) hy (by omega)
        rw [Addr.add_add, show j / 8 * 8 + j % 8 = j by omega] at h8
        rw [show j / 8 * 8 + j % 8 = j by omega, hj] at hf
        injection hf with hf
        rw [hf]
        exact h8
      · obtain ⟨y, _, hy⟩ := List.mem_flatMap.1 hu
        exact slC_one y u hy) (by omega) (by unfold maxLen; omega) (Nat.le_refl _)
    refine ⟨v', w', hr, ?_, ?_⟩
    · unfold RowT
      rw [Nat.zero_add, List.nil_append] at hown
      exact hown
    · exact ⟨hgr.os, hgr.tape, hgr.output, hgr.size, fun k hk => hgr.block k hk (fun e => by cases e)⟩
set_option maxRecDepth 100000 in
set_option maxHeartbeats 8000000 in
theorem refMerge_any (W : World) (sa sb : Value) (la lb : List Sl) (ha : SlotsAt W sa la) (hb : SlotsAt W sb lb) :
    Calls Try.prog 19 #[sa, sb] W (DoneP W (rightB' la && patchB lb) (mergeL la lb)) := by
  have hmx : Try.prog.follows .mixedOrders = true := by kernel_rfl
  have HA := Lib.hid ha
  have HB := Lib.hid hb
  have H1 := Lib.hid (refRight_any W sa la ha)
  have HRA := Lib.hid (fun (h : rightB' la = true) => (rightB_iff' la).1 h)
  have HRB := Lib.hid (fun (h : patchB lb = true) => (patchB_iff lb).1 h)
  clear ha hb
  generalize hra : rightB' la = ra at *
  generalize hrb : patchB lb = rb at *
  have HEB := Lib.hid hrb
  clear hra hrb
  go_enter Try.func19, Try.ntmps19
  go_wp2_with fail
  refine H1.out.mono ?_
  rintro _ W1 ⟨rfl, q1⟩
  have Q1 := Lib.hid q1
  clear q1 H1
  cases ra
  · clear HRA HRB
    go_wp2_with fail
    go_ret2
    exact ⟨.inr (.inr ⟨by simp, rfl⟩), Q1.out⟩
  · go_wp2_with fail
    refine (refPatch_any W1 sb lb (HB.out.later Q1.out)).mono ?_
    rintro _ W2 ⟨rfl, q2⟩
    rw [HEB.out]
    have Q2 := Lib.hid (Q1.out.trans (q2.mono Q1.out.size))
    clear q2 Q1 HEB
    cases rb
    · clear HRA HRB
      go_wp2_with fail
      go_ret2
      exact ⟨.inr (.inr ⟨by simp, rfl⟩), Q2.out⟩
    · have KA := Lib.hid (HRA.out trivial)
      have KB := Lib.hid (HRB.out rfl)
      have WA := Lib.hid HA.out.wideAll
      have WB := Lib.hid HB.out.wideAll
      clear HRA HRB
      obtain ⟨v0, w0, hr, hrow, hbw⟩ := copy_slots W2 sa la (HA.out.later Q2.out) (by have := KA.out.1; omega)
      have HR0 := Lib.hid hrow
      have HQ0 := Lib.hid hbw
      clear hrow hbw
      obtain ⟨ab, cb, rfl, hnc, hcm⟩ := HB.out.shape
      have HBV := Lib.hid ((HB.out.later Q2.out).later HQ0.out)
      obtain ⟨n, hn⟩ : ∃ n, lb.length = n := ⟨_, rfl⟩
      rw [hn] at HB HBV
      rw [hn]
      have HN := Lib.hid hn
      clear hn hnc hcm HA
      go_wp2_with (at_builtin; refine wpList_append_run rfl (.const (.slice none 0 0)) (.tmp 16) 22 rfl _ _ _ rfl rfl hr ?_)
      clear hr
      go_loopw [6, 7] (fun u i wr => ∃ k : Nat, k ≤ n ∧ i = .int .i64 (k : Int) ∧ RowT wr W2.heap.size u (putsL la (lb.take k)) ∧ Below w0.heap.size w0 wr) (fun _ i _ => n - (intOf i).toNat)
      case atStart => exact ⟨0, by omega, rfl, by rw [List.take_zero]; exact HR0.out, Below.refl _ _⟩
      case round =>
        obtain ⟨k, hk, rfl, hrow, hq⟩ := hrel
        have HR := Lib.hid hrow
        have HQ := Lib.hid hq
        clear hrow hq
        by_cases hkn : k < n
        · have hknI : (k : Int) < (n : Int) := by omega
          have hk0 : (0 : Int) ≤ (k : Int) := by omega
          have hkb : (k : Int) ≤ 1000 := by have := KB.out.1; have := HN.out; omega
          obtain ⟨x, hx⟩ : ∃ x, lb[k]? = some x := ⟨_, List.getElem?_eq_getElem (by have := HN.out; omega)⟩
          obtain ⟨b, rfl, _⟩ := (HBV.out.later HQ.out).at hx
          have hC := fun z : Ext wr => (HBV.out.later (HQ.out.trans (z.below.mono HQ.out.size))).at' hx
          have c0 := fun z : Ext wr => (hC z).1
          have c1 := fun z : Ext wr => (hC z).2.1
          have c2 := fun z : Ext wr => (hC z).2.2.1
          have c3 := fun z : Ext wr => (hC z).2.2.2.1
          have c4 := fun z : Ext wr => (hC z).2.2.2.2.1
          have c5 := fun z : Ext wr => (hC z).2.2.2.2.2.1
          have c6 := fun z : Ext wr => (hC z).2.2.2.2.2.2.1
          have c7 := fun z : Ext wr => (hC z).2.2.2.2.2.2.2
          have HS := Lib.hid (HR.out.slots (putsL_wide' WA.out (fun y hy => WB.out y (List.mem_of_mem_take hy))))
          have HK := Lib.hid hkn
          have P1 := Lib.hid (fun (z : Ext wr) => (show Calls Try.prog 30 #[u6, .agg #[.int .u64 (lim x.1 0), .int .u64 (lim x.1 1), .int .u64 (lim x.1 2), .int .u64 (lim x.1 3)], .agg #[.int .u64 (lim x.2 0), .int .u64 (lim x.2 1), .int .u64 (lim x.2 2), .int .u64 (lim x.2 3)]] z.w fun e w' => ∃ rv, e = .returned rv ∧ RowT w' z.w.heap.size rv (putsL la (lb.take (k + 1))) ∧ Below z.w.heap.size z.w w' from by
            have h := refPutOne_any z.w u6 _ (HS.out.later z.below) (putsL_kept KA.out.2 (lb.take k)) (by have := putsL_short la lb k; have := KA.out.1; have := KB.out.1; have := putsL_len la (lb.take k); have : (lb.take k).length ≤ lb.length := (by rw [List.length_take]; omega); omega) x.1 x.2 (WB.out x (List.mem_of_getElem? hx)).1 (WB.out x (List.mem_of_getElem? hx)).2
            rw [show mergeL (putsL la (lb.take k)) [(x.1, x.2)] = putsL la (lb.take (k + 1)) from putsL_take hx] at h
            exact h))
          clear hk hkn hx hC HS
          go_wp2_with fail
          refine wp_region_mix (C := Grows wr) [some true, some true, some true, some true, some true, some true, some true, some true, some true, some true, some true, none, none] hmx (by kernel_rfl) (by kernel_rfl) (grows_refl wr) ?_
          simp only [headOf, tailOf]
          repeat (go_big_quiet_step (fail))
          refine wpQuiet_nil ?_
          rintro _ ⟨z, rfl⟩
          clear c0 c1 c2 c3 c4 c5 c6 c7
          go_wp2_with fail
          refine (P1.out z).mono ?_
          rintro _ y ⟨rv, rfl, hrow, hq⟩
          have HQ2 := Lib.hid (HQ.out.trans ((z.below.trans (hq.mono z.below.size)).mono HQ.out.size))
          have HR2 := Lib.hid (hrow.lower (show W2.heap.size ≤ z.w.heap.size from Nat.le_trans HQ0.out.size (Nat.le_trans HQ.out.size z.below.size)))
          clear hrow hq P1 HR
          go_wp2
          rw [calmPost_normal]
          go_wp2_with fail
          go_roundw
          case rel => exact ⟨k + 1, by have := HK.out; omega, by simp, HR2.out, HQ2.out⟩
          case measure => have := HK.out; simp [intOf]; omega
        · have hknI : ¬ (k : Int) < (n : Int) := by omega
          obtain rfl : k = n := by omega
          have he : putsL la (lb.take k) = mergeL la lb := by
            rw [List.take_of_length_le (by have := HN.out; omega)]
            exact putsL_merge KA.out.2 KB.out.2
          rw [he] at HR
          have hq := Q2.out.trans ((HQ0.out.trans (HQ.out.mono HQ0.out.size)).mono Q2.out.size)
          have QE := Lib.hid hq
          have HRE := Lib.hid (HR.out.lower Q2.out.size)
          obtain ⟨ao, co, rfl⟩ := HR.out.shape
          obtain ⟨nm, hnm⟩ : ∃ nm, (mergeL la lb).length = nm := ⟨_, rfl⟩
          have HNM := Lib.hid hnm
          rw [hnm] at HRE ⊢
          have hnb : (nm : Int) ≤ 9223372036854775806 := by
            have h1 := putsL_len la lb
            rw [putsL_merge KA.out.2 KB.out.2, hnm] at h1
            have := KA.out.1
            have := KB.out.1
            omega
          clear hk hkn he hq hnm HR HQ HQ0 Q2 HB HBV HR0
          by_cases hle : nm ≤ 1000
          · have hleI : ¬ 1000 < (nm : Int) := by omega
            have HLE := Lib.hid hle
            clear hle
            go_wp2_with fail
            go_ret2
            exact ⟨.inl ⟨rfl, by rw [HNM.out]; exact HLE.out, _, rfl, HRE.out⟩, QE.out⟩
          · have hleI : 1000 < (nm : Int) := by omega
            have HLE := Lib.hid hle
            clear hle
            go_wp2_with fail
            go_ret2
            exact ⟨.inr (.inl ⟨rfl, by rw [HNM.out]; exact HLE.out, rfl⟩), QE.out⟩
set_option maxRecDepth 100000 in
set_option maxHeartbeats 2000000 in
theorem refPut_any (W : World) (sv : Value) (l : List Sl) (hs : SlotsAt W sv l) (k v : Nat) (hk : W256 k) (hv : W256 v) :
    Calls Try.prog 16 #[sv, wv k, wv v] W (DoneP W (rightB' l) (mergeL l [(k, v)])) := by
  have K1 := (Has.new W 26 #[.int .u64 (lim k 0), .int .u64 (lim k 1), .int .u64 (lim k 2), .int .u64 (lim k 3)]).alloc (.cells #[.int .u64 (lim v 0), .int .u64 (lim v 1), .int .u64 (lim v 2), .int .u64 (lim v 3)] 26)
  have K2 := Has.new (W.alloc (.cells #[.int .u64 (lim k 0), .int .u64 (lim k 1), .int .u64 (lim k 2), .int .u64 (lim k 3)] 26)) 26 #[.int .u64 (lim v 0), .int .u64 (lim v 1), .int .u64 (lim v 2), .int .u64 (lim v 3)]
  have K3 := Has.new ((W.alloc (.cells #[.int .u64 (lim k 0), .int .u64 (lim k 1), .int .u64 (lim k 2), .int .u64 (lim k 3)] 26)).alloc (.cells #[.int .u64 (lim v 0), .int .u64 (lim v 1), .int .u64 (lim v 2), .int .u64 (lim v 3)] 26)) 31 #[.int .u64 (lim k 0), .int .u64 (lim k 1), .int .u64 (lim k 2), .int .u64 (lim k 3), .int .u64 (lim v 0), .int .u64 (lim v 1), .int .u64 (lim v 2), .int .u64 (lim v 3)]
  simp only [World.size_alloc] at K2 K3
  have Q := Lib.hid ((((Below.refl W.heap.size W).alloc (Nat.le_refl _) (.cells #[.int .u64 (lim k 0), .int .u64 (lim k 1), .int .u64 (lim k 2), .int .u64 (lim k 3)] 26)).alloc (by simp) (.cells #[.int .u64 (lim v 0), .int .u64 (lim v 1), .int .u64 (lim v 2), .int .u64 (lim v 3)] 26)).alloc (by simp; omega) (.cells #[.int .u64 (lim k 0), .int .u64 (lim k 1), .int .u64 (lim k 2), .int .u64 (lim k 3), .int .u64 (lim v 0), .int .u64 (lim v 1), .int .u64 (lim v 2), .int .u64 (lim v 3)] 31))
  have a0 := K1.cell 0 _ rfl
  have b0 := K2.cell 0 _ rfl
  have a1 := K1.cell 1 _ rfl
  have b1 := K2.cell 1 _ rfl
  have a2 := K1.cell 2 _ rfl
  have b2 := K2.cell 2 _ rfl
  have a3 := K1.cell 3 _ rfl
  have b3 := K2.cell 3 _ rfl
  have HM := Lib.hid (refMerge_any (((W.alloc (.cells #[.int .u64 (lim k 0), .int .u64 (lim k 1), .int .u64 (lim k 2), .int .u64 (lim k 3)] 26)).alloc (.cells #[.int .u64 (lim v 0), .int .u64 (lim v 1), .int .u64 (lim v 2), .int .u64 (lim v 3)] 26)).alloc (.cells #[.int .u64 (lim k 0), .int .u64 (lim k 1), .int .u64 (lim k 2), .int .u64 (lim k 3), .int .u64 (lim v 0), .int .u64 (lim v 1), .int .u64 (lim v 2), .int .u64 (lim v 3)] 31)) sv (.slice (some ⟨W.heap.size + 1 + 1, 0, none⟩) 1 1) l [(k, v)] (hs.later Q.out) (slots_one K3 hk hv))
  rw [patchB_one, Bool.and_true] at HM
  unfold wv
  generalize rightB' l = ok at *
  generalize mergeL l [(k, v)] = out at *
  clear hs hk hv
  generalize lim k 0 = k0 at *
  generalize lim k 1 = k1 at *
  generalize lim k 2 = k2 at *
  generalize lim k 3 = k3 at *
  generalize lim v 0 = v0 at *
  generalize lim v 1 = v1 at *
  generalize lim v 2 = v2 at *
  generalize lim v 3 = v3 at *
  replace K1 := Lib.hid K1
  replace K2 := Lib.hid K2
  replace K3 := Lib.hid K3
  go_enter Try.func16, Try.ntmps16
  go_wp2_with fail
  refine HM.out.mono ?_
  intro e W5 hd
  obtain ⟨x, y, rfl⟩ := hd.two
  have HD := Lib.hid (hd.lower Q.out)
  clear hd HM a0 a1 a2 a3 b0 b1 b2 b3
  go_wp2_with fail
  go_ret2
  exact HD.out
end Go.Proofs.Ytcannohmbaaceaa
