/- Part. -/
import Derived.RangeFuncBox
import Derived.Test.YtnkhmgmganejmaaGreatDoorT16
import Derived.Test.YtnkhmgmganejmaaGreatDoorT17
set_option maxRecDepth 100000
set_option maxHeartbeats 16000000
namespace Go.Proofs.YtnkhmgmganejmaaGreatDoor
section
open Go Go.RowKit
attribute [local go_sem] Oper.semAt_some Grows wide_fn eq4
def WdB (base : Nat) (W : World) (v : Value) (l : List Nat) : Prop := WdRow W base v l ∧ ∀ x ∈ l, W256 x
theorem WdB.later {base : Nat} {W X : World} {v : Value} {l : List Nat} (h : WdB base W v l) (hb : Below W.heap.size W X) : WdB base X v l := ⟨h.1.later hb, h.2⟩
theorem WdB.keys {base : Nat} {W : World} {v : Value} {l : List Nat} (h : WdB base W v l) : WdsAt W v l := h.1.keys h.2
theorem WdRow.lower {W : World} {base base' : Nat} {v : Value} {l : List Nat} (h : WdRow W base v l) (hb : base' ≤ base) : WdRow W base' v l := by
 refine ⟨h.1, ?_⟩
 rcases h.2 with h0 | ⟨g, cap, cur, h1, h2, h3⟩
 ·exact .inl h0
 ·exact .inr ⟨g, cap, cur, h1, Nat.le_trans hb h2, h3⟩
theorem clone_wordsB (W : World) (sv : Value) (l : List Nat) (base : Nat) (hb : base ≤ W.heap.size) (hs : WdsAt W sv l) (hl : l.length ≤ 100000) :
  Calls Tryz.prog 18 #[sv] W fun e w' => ∃ v', e = .returned v' ∧ WdB base w' v' l ∧ Below W.heap.size W w' :=
 (clone_words W sv l hs hl).mono fun _ _ ⟨v', he, hr, hb'⟩ => ⟨v', he, ⟨hr.lower hb, hs.all⟩, hb'⟩
theorem own_wordsB (W : World) (sv : Value) (l : List Nat) (base : Nat) (hb : base ≤ W.heap.size) (hs : WdsAt W sv l) (hl : l.length ≤ 100000) :
  Calls Tryz.prog 35 #[sv] W fun e w' => ∃ v', e = .returned v' ∧ WdB base w' v' l ∧ Below W.heap.size W w' :=
 (own_words W sv l hs hl).mono fun _ _ ⟨v', he, hr, hb'⟩ => ⟨v', he, ⟨hr.lower hb, hs.all⟩, hb'⟩
def PopRP (W : World) (s t : List Nat) (c : Int) (e : Ending) (w' : World) : Prop := ∃ v' u', e = .returned (.tuple #[v', u', .int .i64 c]) ∧ WdB W.heap.size w' v' s ∧ WdsAt w' u' t ∧ Below W.heap.size W w'
section CopU
def UPopR (W : World) (base : Nat) (ls : List Nat) (f : Nat → Bool) (g : Nat → Value) (w : World) : Prop :=
 Below W.heap.size W w ∧ (f 6 = true → WdB base w (g 6) ls) ∧ (f 8 = true → f 6 = true ∧ g 8 = g 6)
variable {W : World} {base : Nat} {ls : List Nat} {f : Nat → Bool} {g : Nat → Value} {w w' : World}
theorem UPopR.later (h : UPopR W base ls f g w) (hb : Below w.heap.size w w') : UPopR W base ls f g w' := ⟨h.1.trans (hb.mono h.1.size), fun k => (h.2.1 k).later hb, h.2.2⟩
theorem UPopR.same {f' : Nat → Bool} {g' : Nat → Value} (h : UPopR W base ls f g w) (hh : ∀ j, j = 6 ∨ j = 8 → f j = f' j ∧ g j = g' j) : UPopR W base ls f' g' w := by
 unfold UPopR at h ⊢
 rwa [(hh 6 (by omega)).1, (hh 6 (by omega)).2, (hh 8 (by omega)).1, (hh 8 (by omega)).2] at h
theorem UPopR.n6 (h : UPopR W base ls f g w) (hb : Below w.heap.size w w') (h8 : f 8 = false) {v : Value} (hk : WdB base w' v ls) : UPopR W base ls (upd f 6 true) (upd g 6 v) w' := by
 obtain ⟨h1, h2, h3⟩ := h.later hb
 exact ⟨h1, fun _ => by simpa [upd] using hk, fun k => by simp [upd, h8] at k⟩
theorem UPopR.n8 (h : UPopR W base ls f g w) (h6 : f 6 = true) : UPopR W base ls (upd f 8 true) (upd g 8 (g 6)) w := by
 obtain ⟨h1, h2, h3⟩ := h
 exact ⟨h1, by simpa [upd] using h2, fun _ => by simpa [upd] using h6⟩
end CopU
theorem pop_row (W : World) (sv : Value) (s : List Nat) (k : Int) (hs : WdsAt W sv s) (hk : s.length ≤ 10000) :
  Calls Tryz.prog 33 #[sv, .int .i64 k] W (PopRP W (popL s k) (popT s k) (askN s.length k 0 0)) := by
 have hmx : Tryz.prog.follows .mixedOrders = true := by kernel_rfl
 have hfin := hid (show ∀ v' (w' : World) (c : Int), askN s.length k 0 0 = c → c ≠ 0 → WdB W.heap.size w' v' s → Below W.heap.size W w' → PopRP W (popL s k) (popT s k) (askN s.length k 0 0) (.returned (.tuple #[v', .slice none 0 0, .int .i64 c])) w' from fun v' w' c h1 h2 h3 h4 => by
  unfold popL popT
  rw [h1, if_neg h2, if_neg h2]
  exact ⟨v', _, rfl, h3, WdsAt.nil _, h4⟩)
 have hfin2 := hid (show ∀ v' u' (w' : World), askN s.length k 0 0 = 0 → WdB W.heap.size w' v' (s.take (s.length - k.toNat)) → WdsAt w' u' ((List.range k.toNat).map (nthW s)) → Below W.heap.size W w' → PopRP W (popL s k) (popT s k) (askN s.length k 0 0) (.returned (.tuple #[v', u', .int .i64 0])) w' from fun v' u' w' h1 h2 h3 h4 => by
  unfold popL popT
  rw [h1, if_pos rfl, if_pos rfl]
  exact ⟨v', u', rfl, h2, h3, h4⟩)
 obtain ⟨Post, hPost⟩ : ∃ Post, PopRP W (popL s k) (popT s k) (askN s.length k 0 0) = Post := ⟨_, rfl⟩
 rw [hPost] at hfin hfin2 ⊢
 clear hPost
 obtain ⟨a, ca, rfl, hnc, hcm⟩ := hs.shape
 have HS := hid hs
 have HALL := hid hs.all
 have HC := hid (fun X (hX : Below W.heap.size W X) => clone_wordsB X _ s W.heap.size hX.size (hs.later hX) (by omega))
 have HR := hid (asked_ret a s.length ca k 0 0 (by omega) ⟨by decide, by decide⟩ ⟨by decide, by decide⟩)
 clear hs
 by_cases c0 : askN s.length k 0 0 = 0
 ·obtain ⟨g1, g2, g3⟩ := ask_ok c0
  rw [c0] at HR
  obtain ⟨N, rfl⟩ : ∃ N : Nat, k = (N : Int) := ⟨k.toNat, by omega⟩
  simp only [Int.toNat_natCast] at hfin2
  have HCT := hid (fun X (hX : Below W.heap.size W X) => clone_wordsB X _ (s.take (s.length - N)) W.heap.size hX.size ((HS.out.later hX).take (s.length - N) (by omega)) (by simp; omega))
  have H0 := hid c0
  have HN := hid (show N ≤ s.length ∧ s.length ≤ 1024 from ⟨by omega, g1⟩)
  have HSUB := hid (show (s.length : Int) - (N : Int) = ((s.length - N : Nat) : Int) by omega)
  have n0 : (0 : Int) ≤ (N : Int) := by omega
  have n1 : (N : Int) ≤ 1024 := by omega
  have HNC := hid hnc
  clear c0 hfin HC g1 g2 g3 hk hnc hcm
  refine (callsIn_wide (n := 8)).1 ?_
  refine callsIn_of_wp_marks Tryz.func33 rfl trivial ?_ rfl
  simp only [Tryz.ntmps33, List.size_toArray, List.length_cons, List.length_nil, Nat.reduceAdd, Nat.reduceSub, Array.replicate_succ, Array.replicate_zero, List.push_toArray, List.append_toArray, List.nil_append, List.cons_append]
  obtain ⟨L, hL⟩ : ∃ L, s.length = L := ⟨_, rfl⟩
  have HL := hid hL
  rw [hL] at HR HCT HS HSUB ⊢
  clear hL
  gi_wp2_with fail
  refine (callsIn_free free_wide (HR.out _)).mono ?_
  rintro e w1 ⟨rfl, q1⟩
  have Q1 := hid q1
  obtain ⟨cs, hcs, hmk⟩ := run_mkW N (by have := HN.out; omega) w1
  have R2 : WdRow (w1.alloc (.cells cs 24)) w1.heap.size (.slice (some ⟨w1.heap.size, 0, none⟩) 0 N) [] := World.ownsRow_made w1 cs N (Nat.le_refl _) (by have := HN.out; unfold maxLen; omega) hcs
  have q2 := (newA w1 (.cells cs 24)).alloc (by simp) (.cells #[.slice (some ⟨w1.heap.size, 0, none⟩) 0 N] 27)
  have B2 := Has.new (w1.alloc (.cells cs 24)) 27 #[.slice (some ⟨w1.heap.size, 0, none⟩) 0 N]
  have R3 := R2.later ((Below.refl _ _).alloc (Nat.le_refl _) (.cells #[.slice (some ⟨w1.heap.size, 0, none⟩) 0 N] 27))
  simp only [World.size_alloc] at B2
  obtain ⟨W2, hW2⟩ : ∃ W2, (w1.alloc (.cells cs 24)).alloc (.cells #[.slice (some ⟨w1.heap.size, 0, none⟩) 0 N] 27) = W2 := ⟨_, rfl⟩
  have hsz2 := hid (show W2.heap.size = w1.heap.size + 2 by rw [← hW2]; simp)
  rw [hW2] at q2 B2 R3
  have HB2 := hid B2
  have HR3 := hid R3
  have Q2 := hid (Q1.out.trans (q2.mono Q1.out.size))
  clear q1 q2 B2 R2 R3 HR hcs
  gi_wp2_with fail
  refine (callsIn_free free_wide (top_any a L ca (N : Int) W2)).mono ?_
  rintro e w3 ⟨rfl, hw3⟩
  have q3 := (newA W2 (.cells #[.slice a L ca] 55)).alloc (by simp) (.cells #[.int .i64 (N : Int)] 3)
  have P3 := (Has.new W2 55 #[.slice a L ca]).alloc (.cells #[.int .i64 (N : Int)] 3)
  have N3 := Has.new (W2.alloc (.cells #[.slice a L ca] 55)) 3 #[.int .i64 (N : Int)]
  simp only [World.size_alloc] at N3
  rw [← hw3] at q3 P3 N3
  have hsz3 := hid (show w3.heap.size = W2.heap.size + 2 by rw [hw3]; simp)
  clear hw3
  have Q3 := hid (Q2.out.trans (q3.mono Q2.out.size))
  have HSEQ := hid (top_seq 7 (by omega) (.slice a L ca) s N (W2.heap.size + 1) W2.heap.size W.heap.size W w3 HS.out HN.out.1 (by have := HN.out; omega) rfl Q3.out (P3.cell 0 _ rfl) (N3.cell 0 _ rfl))
  have HST0 := hid (show PopSt W (w1.heap.size + 1) w1.heap.size w3.heap.size [W2.heap.size + 1, W2.heap.size] s 0 w3 from ⟨_, HB2.out.later q3, HR3.out.later q3, Q3.out, Nat.le_refl _, fun b hb => by
   simp at hb
   rcases hb with rfl | rfl
   ·exact ⟨_, _, by decide, N3⟩
   ·exact ⟨_, _, by decide, P3⟩⟩)
  have HQ1 := hid Q1.out.size
  clear q3 P3 N3
  gi_wp2_with fail
  refine wpIn_rangeFunc_N rfl (by omega) (gf := 101) (lb := #[.pointer (some ⟨W2.heap.size + 1, 0, none⟩), .pointer (some ⟨W2.heap.size, 0, none⟩)]) rfl trivial (enters_of Tryz.func101 (by kernel_rfl) rfl)
   HSEQ.out KpW.trans (KpW.b Q3.out.size (by intro b hb; simp at hb; have := hsz3.out; omega)) (fun _ _ => rfl)
   (fun k V => PopSt W (w1.heap.size + 1) w1.heap.size w3.heap.size [W2.heap.size + 1, W2.heap.size] s k V) (fun _ _ _ => False) (PopSt.own Q3.out.size) (fun _ => fun _ _ _ _ h => h.elim) HST0.out
   (fun k a' V => ∃ bx, w3.heap.size ≤ bx ∧ Has V bx 24 #[.int .u64 (lim (nthW s k) 0), .int .u64 (lim (nthW s k) 1), .int .u64 (lim (nthW s k) 2), .int .u64 (lim (nthW s k) 3)] ∧ a' = { tmps := #[Value.slice a L ca, Value.int IntKind.i64 ↑N, undef, undef, Value.slice none 0 0, Value.slice none 0 0, Value.int IntKind.i64 0, Value.int IntKind.i64 0, Value.pointer (some { block := w1.heap.size + 1, off := 0 }), .pointer (some ⟨bx, 0, none⟩), Value.slice a L ca, Value.int IntKind.i64 ↑N, Value.int IntKind.i64 0, Value.int IntKind.i64 0, Value.bool false, undef, undef, undef, Value.int IntKind.i64 ↑N, Value.slice (some { block := w1.heap.size, off := 0 }) 0 N, Value.slice a L ca, Value.int IntKind.i64 ↑N, .func (.func 101) #[] #[.pointer (some ⟨W2.heap.size + 1, 0, none⟩), .pointer (some ⟨W2.heap.size, 0, none⟩)], .agg #[.int .u64 (lim (nthW s k) 0), .int .u64 (lim (nthW s k) 1), .int .u64 (lim (nthW s k) 2), .int .u64 (lim (nthW s k) 3)], undef, undef, undef, undef, undef, undef, undef, undef, undef, undef, undef, undef], defers := [] })
   (fun k a' _ X Y row hs hg hr => by
    obtain ⟨bx, h1, h2, e⟩ := hs
    exact ⟨bx, h1, h2.ownW hg (fun r e => (hr r e).2), e⟩) ?assign ?body ?done ?stop
  case assign =>
   intro ll k V K hkN hst hK
   have HST := hid hst
   have HK := hid hK
   have qv := newA V (.cells #[.int .u64 (lim (nthW s k) 0), .int .u64 (lim (nthW s k) 1), .int .u64 (lim (nthW s k) 2), .int .u64 (lim (nthW s k) 3)] 24)
   have NV := Has.new V 24 #[.int .u64 (lim (nthW s k) 0), .int .u64 (lim (nthW s k) 1), .int .u64 (lim (nthW s k) 2), .int .u64 (lim (nthW s k) 3)]
   have Z0 := Has.new V 24 z4
   obtain ⟨z0, z1, z2, z3⟩ := c4 Z0
   have y0 := Z0.frozen 0
   have y1 := Z0.frozen 1
   have y2 := Z0.frozen 2
   have y3 := Z0.frozen 3
   have HQV := hid qv
   have HNV := hid NV
   clear hst hK qv NV Z0 HST0
   gi_wp2_with fail
   obtain ⟨v, h1, h2, h3, h4, h5⟩ := HST.out
   have hv3 := Below.size h3
   refine HK.out _ _ ⟨HQV.out.size, fun b o _ ho _ => (HQV.out.block b (Array.getElem?_eq_some_iff.1 ho).1).trans ho⟩ (KpW.of_below h3.size (fun b hb => ?_) HQV.out) ⟨v, h1.later HQV.out, h2.later HQV.out, h3.trans (HQV.out.mono h3.size), Nat.le_trans h4 HQV.out.size, fun b hb => let ⟨t, cs, ht, h⟩ := h5 b hb; ⟨t, cs, ht, h.later HQV.out⟩⟩ ⟨V.heap.size, ?_, HNV.out, rfl⟩
   ·have := hsz3.out
    simp at hb
    omega
   ·exact h4
  case body =>
   rintro ll k a' V hll hlo hkN ⟨v, h1, h2, h3, h4, h5⟩ ⟨bx, hge, hbx, rfl⟩
   obtain ⟨R, hR⟩ : ∃ R, (List.range k).map (nthW s) = R := ⟨_, rfl⟩
   have hlen : R.length = k := by rw [← hR]; simp
   rw [hR] at h2
   obtain ⟨a0, c0, rfl⟩ := h2.shapeW
   rw [hlen] at h1 h2
   have hm := one_made V (nthW s k) (nthW_lt HALL.out k)
   have qa := newA V (.cells #[.int .u64 (lim (nthW s k) 0), .int .u64 (lim (nthW s k) 1), .int .u64 (lim (nthW s k) 2), .int .u64 (lim (nthW s k) 3)] 24)
   have hbase : w1.heap.size ≤ V.heap.size := by have := hsz2.out; have := hsz3.out; omega
   obtain ⟨v', w', happ, hrow, hgr, hbel⟩ := append_words (V.alloc (.cells #[.int .u64 (lim (nthW s k) 0), .int .u64 (lim (nthW s k) 1), .int .u64 (lim (nthW s k) 2), .int .u64 (lim (nthW s k) 3)] 24)) w1.heap.size (.slice a0 k c0) _ (h2.later qa) (Nat.le_trans hbase qa.size) _ [nthW s k] hm (by rw [List.length_singleton, hlen]; have := HN.out; omega)
   have hBt : Has w' (w1.heap.size + 1) 27 #[.slice a0 k c0] := (hgr.block _ (by have := (h1.later qa).lt; exact this) (fun e => by
    obtain ⟨_, cs', hcs'⟩ := (h2.later qa).blockW e.symm
    have h := (h1.later qa)
    unfold Has at h
    rw [h] at hcs'
    injection hcs' with hcs'
    injection hcs' with _ hcs' _
    exact absurd hcs' (by decide))).trans (h1.later qa)
   obtain ⟨a1, c1, rfl⟩ := hrow.shapeW
   have hlen2 : (R ++ [nthW s k]).length = k + 1 := by simp [hlen]
   rw [hlen2] at happ hrow
   have e0 := h1.cell 0 _ rfl
   obtain ⟨e1, e2, e3, e4⟩ := c4 hbx
   have d0 := hBt.cell 0 _ rfl
   have d1 := hBt.frozen 0
   have HFIN := hid (show roundN w3.heap.size (KpW W.heap.size [W2.heap.size + 1, W2.heap.size]) (fun k V => PopSt W (w1.heap.size + 1) w1.heap.size w3.heap.size [W2.heap.size + 1, W2.heap.size] s k V) (fun _ _ _ => False) k V .normal { tmps := #[], defers := [] } (w'.setCell ⟨w1.heap.size + 1, 0, none⟩ (.slice a1 (k + 1) c1)) from by
    have hsV := qa.size
    have hz2 := hsz2.out
    have hz3 := hsz3.out
    have hQ1 := HQ1.out
    have hq2 := Q3.out.size
    have hgs := hgr.size
    have hown : ∀ r, Value.ownBlock (.slice a0 k c0) = some r → ∃ cs, V.heap[r]? = some (.cells cs 24 (0, 0)) ∧ w1.heap.size ≤ r := fun r e => by
     obtain ⟨h5, cs, h6⟩ := h2.blockW e
     exact ⟨cs, h6, h5⟩
    have keep : ∀ b o, b ≠ w1.heap.size + 1 → V.heap[b]? = some o → (∀ cs, o ≠ .cells cs 24 (0, 0)) → (w'.setCell ⟨w1.heap.size + 1, 0, none⟩ (.slice a1 (k + 1) c1)).heap[b]? = some o := fun b o hb ho hno => by
     have hbV := (Array.getElem?_eq_some_iff.1 ho).1
     refine (Below.heap_setCell w' ⟨w1.heap.size + 1, 0, none⟩ _ b hb).trans ((hgr.block b (by omega) (fun e => ?_)).trans ((qa.block b hbV).trans ho))
     obtain ⟨cs, h6, _⟩ := hown b e.symm
     rw [ho] at h6
     injection h6 with h6
     exact hno cs h6
    have low : ∀ b, b < W.heap.size → (w'.setCell ⟨w1.heap.size + 1, 0, none⟩ (.slice a1 (k + 1) c1)).heap[b]? = V.heap[b]? := fun b hb => by
     refine (Below.heap_setCell w' ⟨w1.heap.size + 1, 0, none⟩ _ b (by show b ≠ w1.heap.size + 1; omega)).trans ((hgr.block b (by omega) (fun e => ?_)).trans (qa.block b (by omega)))
     obtain ⟨cs, _, h7⟩ := hown b e.symm
     omega
    have size : V.heap.size ≤ (w'.setCell ⟨w1.heap.size + 1, 0, none⟩ (.slice a1 (k + 1) c1)).heap.size := by simp [World.setCell]; omega
    have hbw : Below W.heap.size V (w'.setCell ⟨w1.heap.size + 1, 0, none⟩ (.slice a1 (k + 1) c1)) := ⟨hgr.os.trans qa.os, hgr.tape.trans qa.tape, hgr.output.trans qa.output, size, low⟩
    refine ⟨⟨size, fun b o hb ho hc => keep b o (by omega) ho (fun cs e => by subst e; cases hc)⟩, ⟨hbw, fun b hb => ?_⟩, _, hBt.set 0 _, ?_, h3.trans hbw, Nat.le_trans h4 size, fun b hb => ?_⟩
    ·obtain ⟨t, cs, ht, h⟩ := h5 b hb
     refine (keep b _ (by simp at hb; omega) h (fun cs' e => ?_)).trans h.symm
     injection e with _ e _
     exact ht e
    ·rw [range_snoc, hR]
     refine ⟨hrow.1, ?_⟩
     rcases hrow.2 with h | ⟨g, cap, cur, h6, h7, h8, h9⟩
     ·exact .inl h
     ·refine .inr ⟨g, cap, cur, h6, h7, (Below.heap_setCell w' ⟨w1.heap.size + 1, 0, none⟩ _ g (fun e => ?_)).trans h8, h9⟩
      simp only at e
      subst e
      have hB' := hBt
      unfold Has at hB'
      rw [hB'] at h8
      injection h8 with h8
      injection h8 with _ h8 _
      exact absurd h8 (by decide)
    ·obtain ⟨t, cs, ht, h⟩ := h5 b hb
     refine ⟨t, cs, ht, keep b _ (by simp at hb; omega) h (fun cs' e => ?_)⟩
     injection e with _ e _
     exact ht e)
   have HAPP := hid happ
   clear hm qa hbase hrow hgr hbel hBt h1 h2 h3 h4 h5 hbx hge happ
   have happ := HAPP.out
   gi_wp2_with (gi_at_builtin; refine wpListIn_append_runW rfl (.tmp 24) (.tmp 26) 27 rfl _ _ _ rfl rfl happ ?_)
   exact HFIN.out
  case done =>
   rintro D V hD ⟨v, h1, h2, h3, h4, _⟩ hK
   have HK := hid hK
   have HV := hid h3
   have HRN := hid (show ∀ x ∈ (List.range N).map (nthW s), W256 x from fun x hx => by
    obtain ⟨i, _, rfl⟩ := List.mem_map.1 hx
    exact nthW_lt HALL.out i)
   have TK := hid (h2.keys HRN.out)
   have HB1 := hid h1
   obtain ⟨a0, c0, rfl⟩ := h2.shapeW
   generalize ((List.range N).map (nthW s)).length = tn at *
   have e0 : ∀ z : World, Below V.heap.size V z → z.cell? ⟨w1.heap.size + 1, 0, none⟩ = some (.slice a0 tn c0) := fun z hz => (HB1.out.later hz).cell 0 _ rfl
   have HE0 := hid e0
   have hLN : ((L - N : Nat) : Int) ≤ (L : Int) := by omega
   have hL0 : (0 : Int) ≤ ((L - N : Nat) : Int) := by omega
   have hLc : (L : Int) ≤ 10000 := by have := HN.out; have := HL.out; omega
   have hLN2 : L - N ≤ ca := by have := HNC.out; have := HL.out; omega
   have hsub := HSUB.out
   clear e0 h1 h2 h3 h4 hK HST0
   gi_wp2_with fail
   refine wpIn_region_ghost (c := [some (.slice a L ca), some (.slice a L ca), some (.int .i64 (L : Int)), some (.int .i64 (N : Int)), some (.int .i64 ((L - N : Nat) : Int)), some (.slice a (L - N) ca), none, some (.slice a0 tn c0), none, some (.slice a0 tn c0), some (.int .i64 0)]) free_wide (deps := [[], [], [1], [], [2, 3], [0, 4], [5], [], [0, 1, 2, 3, 4, 5, 6], [0, 1, 2, 3, 4, 5, 6, 7, 8], [0, 1, 2, 3, 4, 5, 6, 7, 8, 9]]) (U := UPopR V W.heap.size (s.take (L - N))) hmx (by kernel_rfl) (by kernel_rfl) (fun f g w w' h hb => h.later hb) (fun f f' g g' w hh h => h.same (fun j hj => hh j (by rcases hj with rfl | rfl <;> rfl))) ⟨(Below.refl _ _).drew, by simp, by simp⟩ ?_
   rintro f g y hU0 Dn
   have hU := hid hU0
   have qy := hid hU0.1
   clear hU0
   have ey := HE0.out y qy.out
   refine GW.known _ rfl (fun hd hf => ?_) ?_
   ·go_wp2
    exact ⟨rfl, rfl, Below.refl _ _⟩
   simp only [Act.put, sT, sS, sZ]
   refine GW.known _ rfl (fun hd hf => ?_) ?_
   ·go_wp2
    exact ⟨rfl, rfl, Below.refl _ _⟩
   simp only [Act.put, sT, sS, sZ]
   refine GW.known _ rfl (fun hd hf => ?_) ?_
   ·go_wp2
    exact ⟨rfl, rfl, Below.refl _ _⟩
   simp only [Act.put, sT, sS, sZ]
   refine GW.known _ rfl (fun hd hf => ?_) ?_
   ·go_wp2
    exact ⟨rfl, rfl, Below.refl _ _⟩
   simp only [Act.put, sT, sS, sZ]
   refine GW.known _ rfl (fun hd hf => ?_) ?_
   ·go_wp2
    exact ⟨rfl, rfl, Below.refl _ _⟩
   simp only [Act.put, sT, sS, sZ]
   refine GW.known _ rfl (fun hd hf => ?_) ?_
   ·go_wp2
    exact ⟨rfl, rfl, Below.refl _ _⟩
   simp only [Act.put, sT, sS, sZ]
   refine GW.open rfl (fun hd hf => ?_) ?_
   ·have f8 : f 8 = false := by
     cases h : f 8 with
     | false => rfl
     | true => have := Dn 8 h 6 (by decide); rw [hf] at this; cases this
    go_wp2_with fail
    refine (HCT.out y (HV.out.trans (qy.out.mono HV.out.size))).mono ?_
    rintro e u ⟨v', rfl, k2, q2⟩
    go_wp2
    exact ⟨rfl, hU.out.n6 q2 f8 k2⟩
   simp only [Act.put, sT, sS, sZ]
   refine GW.known _ rfl (fun hd hf => ?_) ?_
   ·go_wp2
    exact ⟨rfl, rfl, Below.refl _ _⟩
   simp only [Act.put, sT, sS, sZ]
   refine GW.open rfl (fun hd hf => ?_) ?_
   ·go_wp2
    exact ⟨rfl, hU.out.n8 (hd 6 (by decide))⟩
   simp only [Act.put, sT, sS, sZ]
   refine GW.known _ rfl (fun hd hf => ?_) ?_
   ·go_wp2
    exact ⟨rfl, rfl, Below.refl _ _⟩
   simp only [Act.put, sT, sS, sZ]
   refine GW.known _ rfl (fun hd hf => ?_) ?_
   ·go_wp2
    exact ⟨rfl, rfl, Below.refl _ _⟩
   simp only [Act.put, sT, sS, sZ]
   refine GW.nil (fun hall => ?_)
   obtain ⟨h6, e8⟩ := hU.out.2.2 (hall 8 (by omega))
   have K6 := hid (hU.out.2.1 h6)
   have hK' := hid ((qy.out.block D (Array.getElem?_eq_some_iff.1 HK.out).1).trans HK.out)
   rw [e8]
   clear hU Dn hall h6 e8 ey
   generalize g 6 = v6 at *
   gi_wp2_with fail
   refine ⟨by simp, .inl ⟨_, _, rfl, run_takeDeferred hK'.out, ?_⟩⟩
   have hkeep : ∀ o' (a : Addr) (u : Value), y.cell? a = some u → (y.putObj D o').cell? a = some u := fun o' a u h => by
    have hne : a.block ≠ D := fun e => by
     subst e
     unfold World.cell? at h
     rw [hK'.out] at h
     cases h
    refine (World.cell?_of_block (World.putObj_heap_other hne)).trans h
   refine ⟨.tuple #[v6, .slice a0 tn c0, .int .i64 0], (by simp [results, Tryz.f33, go_sem]), ?_⟩
   exact hfin2.out _ _ _ H0.out (by rw [HL.out]; exact ⟨ownsRow_putObj K6.out.1 _ hK'.out rfl, K6.out.2⟩) ((TK.out.later qy.out).keep (hkeep _)) ((HV.out.trans (qy.out.mono HV.out.size)).trans (KpW.b Q3.out.size (L := []) (by simp) _ D _ _ hD hK'.out rfl rfl).1)
  case stop =>
   rintro D c k V hD hkN h hK
   exact h.elim
 ·obtain ⟨c, hc⟩ : ∃ c, askN s.length k 0 0 = c := ⟨_, rfl⟩
  have hcn : c ≠ 0 := by rw [← hc]; exact c0
  rw [hc] at HR
  have HF := hid (fun v' w' => hfin.out v' w' c hc hcn)
  clear c0 hfin hfin2 hc hnc hcm
  generalize hn : s.length = n at *
  clear hn hk
  go_enter Tryz.func33, Tryz.ntmps33
  go_wp2_with fail
  refine (HR.out _).mono ?_
  rintro e w1 ⟨rfl, q1⟩
  go_wp2_with fail
  refine (HC.out _ q1).mono ?_
  rintro e w2 ⟨v', rfl, k2, q2⟩
  go_wp2
  go_ret3
  exact HF.out _ _ k2 (q1.trans (q2.mono q1.size))
end
section
open Go Go.RowKit Go.Maps
attribute [local go_sem] Oper.semAt_some Grows wide_fn
def MkOk (W : World) (v : Value) (n : Nat) (m : List Nat → List Nat) : Prop :=
 ∃ g cap, v = .func (.func g) #[] cap ∧ Go.Proofs.Enters Tryz.prog g ∧ ∀ X, Keep W X → Tab X → ∀ tv l, l.length = n → WdsAt X tv l →
  Calls Tryz.prog g (#[tv] ++ cap) X fun e w' => ∃ v', e = .returned v' ∧ WdsAt w' v' (m l) ∧ Below X.heap.size X w'
theorem lk1_any (W w : World) (fv tv : Value) (φ : List Nat → Nat) (a bc bf : Nat) (hf : FnOk W fv 1 φ) (hX : Keep W w) (hT : Tab w) (ht : WdsAt w tv [a])
  (hc1 : w.cell? ⟨bc, 0, none⟩ = some (.func (.func 66) #[] #[])) (hc2 : w.cell? ⟨bf, 0, none⟩ = some fv) :
  Calls Tryz.prog 103 #[tv, .pointer (some ⟨bc, 0, none⟩), .pointer (some ⟨bf, 0, none⟩)] w fun e w' => ∃ v', e = .returned v' ∧ WdsAt w' v' [φ [a]] ∧ Below w.heap.size w w' := by
 have HW := hid (show W256 (φ [a]) by
  obtain ⟨g, cap, _, _, hc⟩ := hf
  exact (hc w hX hT [a] rfl ht.all).1)
 have HM := hid (mk1_any W w fv tv φ a hf hX hT ht)
 obtain ⟨a0, cp, rfl, _, _⟩ := ht.shape
 obtain ⟨g, cap, rfl, _, _⟩ := hf
 obtain ⟨x, hx⟩ : ∃ x, φ [a] = x := ⟨_, rfl⟩
 rw [hx] at HM HW ⊢
 clear ht hx hX hT
 go_enter Tryz.func103, Tryz.ntmps103
 go_wp2_with fail
 refine HM.out.mono ?_
 rintro e w1 ⟨rfl, q1⟩
 have KW := hid (one_made w1 x HW.out)
 have q2 := newA w1 (.cells (w4 (lim x)) 24)
 have Q2 := hid (q1.trans (q2.mono q1.size))
 clear q1 q2 hc1 hc2 HM
 unfold wv
 go_wp2
 go_ret
 exact ⟨_, rfl, KW.out, Q2.out⟩
theorem lk2_any (W w : World) (fv tv : Value) (φ : List Nat → Nat) (a b bc bf : Nat) (hf : FnOk W fv 2 φ) (hX : Keep W w) (hT : Tab w) (ht : WdsAt w tv [a, b])
  (hc1 : w.cell? ⟨bc, 0, none⟩ = some (.func (.func 69) #[] #[])) (hc2 : w.cell? ⟨bf, 0, none⟩ = some fv) :
  Calls Tryz.prog 108 #[tv, .pointer (some ⟨bc, 0, none⟩), .pointer (some ⟨bf, 0, none⟩)] w fun e w' => ∃ v', e = .returned v' ∧ WdsAt w' v' [φ [a, b]] ∧ Below w.heap.size w w' := by
 have HW := hid (show W256 (φ [a, b]) by
  obtain ⟨g, cap, _, _, hc⟩ := hf
  exact (hc w hX hT [a, b] rfl ht.all).1)
 have HM := hid (mk2_any W w fv tv φ a b hf hX hT ht)
 obtain ⟨a0, cp, rfl, _, _⟩ := ht.shape
 obtain ⟨g, cap, rfl, _, _⟩ := hf
 obtain ⟨x, hx⟩ : ∃ x, φ [a, b] = x := ⟨_, rfl⟩
 rw [hx] at HM HW ⊢
 clear ht hx hX hT
 go_enter Tryz.func108, Tryz.ntmps108
 go_wp2_with fail
 refine HM.out.mono ?_
 rintro e w1 ⟨rfl, q1⟩
 have KW := hid (one_made w1 x HW.out)
 have q2 := newA w1 (.cells (w4 (lim x)) 24)
 have Q2 := hid (q1.trans (q2.mono q1.size))
 clear q1 q2 hc1 hc2 HM
 unfold wv
 go_wp2
 go_ret
 exact ⟨_, rfl, KW.out, Q2.out⟩
theorem lk3_any (W w : World) (fv tv : Value) (φ : List Nat → Nat) (a b c bc bf : Nat) (hf : FnOk W fv 3 φ) (hX : Keep W w) (hT : Tab w) (ht : WdsAt w tv [a, b, c])
  (hc1 : w.cell? ⟨bc, 0, none⟩ = some (.func (.func 72) #[] #[])) (hc2 : w.cell? ⟨bf, 0, none⟩ = some fv) :
  Calls Tryz.prog 129 #[tv, .pointer (some ⟨bc, 0, none⟩), .pointer (some ⟨bf, 0, none⟩)] w fun e w' => ∃ v', e = .returned v' ∧ WdsAt w' v' [φ [a, b, c]] ∧ Below w.heap.size w w' := by
 have HW := hid (show W256 (φ [a, b, c]) by
  obtain ⟨g, cap, _, _, hc⟩ := hf
  exact (hc w hX hT [a, b, c] rfl ht.all).1)
 have HM := hid (mk3_any W w fv tv φ a b c hf hX hT ht)
 obtain ⟨a0, cp, rfl, _, _⟩ := ht.shape
 obtain ⟨g, cap, rfl, _, _⟩ := hf
 obtain ⟨x, hx⟩ : ∃ x, φ [a, b, c] = x := ⟨_, rfl⟩
 rw [hx] at HM HW ⊢
 clear ht hx hX hT
 go_enter Tryz.func129, Tryz.ntmps129
 go_wp2_with fail
 refine HM.out.mono ?_
 rintro e w1 ⟨rfl, q1⟩
 have KW := hid (one_made w1 x HW.out)
 have q2 := newA w1 (.cells (w4 (lim x)) 24)
 have Q2 := hid (q1.trans (q2.mono q1.size))
 clear q1 q2 hc1 hc2 HM
 unfold wv
 go_wp2
 go_ret
 exact ⟨_, rfl, KW.out, Q2.out⟩
theorem nothing_any (w : World) (tv : Value) : Calls Tryz.prog 102 #[tv] w fun e w' => e = .returned (.slice none 0 0) ∧ w' = w := by
 go_enter Tryz.func102, Tryz.ntmps102
 go_wp2
 go_ret
 exact ⟨rfl, rfl⟩
theorem MkOk.nothing (W : World) (n : Nat) : MkOk W (.func (.func 102) #[] #[]) n (fun _ => []) :=
 ⟨_, _, rfl, enters_of Tryz.func102 (by kernel_rfl) rfl, fun X _ _ tv l _ _ => (nothing_any X tv).mono fun e w' ⟨h1, h2⟩ => by subst h2; exact ⟨_, h1, WdsAt.nil _, Below.refl _ _⟩⟩
theorem look1_any (W : World) (B n : Nat) (f : Nat → Option Value) (hm : MapF W B n f) (op : Nat) (ho : op < 256) (φ : List Nat → Nat) (h0 : f op = none ∨ ∃ v, f op = some v ∧ FnOk W v 1 φ) :
  Calls Tryz.prog 64 #[.map (some B), .int .u8 (op : Int), .func (.func 66) #[] #[]] W fun e w' => ∃ v, e = .returned v ∧ MkOk w' v 1 (fun l => if (f op).isSome = true then [φ l] else []) ∧ Below W.heap.size W w' := by
 have HU := hid (show Tryz.prog.underlying 78 = some (.map tB 76) from Tryz.underlying78)
 have HZ := hid (show ∀ w, (zeroValue 76).run Tryz.prog w = .ok .nilFunc w from fun w => by kernel_rfl)
 have HM := hid hm
 have HO := hid ho
 have q1 := newA W (.cells #[.func (.func 66) #[] #[]] 80)
 have N1 := Has.new W 80 #[.func (.func 66) #[] #[]]
 have M1 := hid (hm.later q1)
 rcases h0 with h0 | ⟨v, h0, hv⟩
 ·have HL := hid (show lookF f op = .tuple #[.nilFunc, .bool false] by unfold lookF; rw [h0]; rfl)
  have q2 := q1.alloc q1.size (.cells #[.nilFunc] 76)
  have Q2 := hid q2
  rw [h0]
  clear hm ho h0 q1 q2 N1
  go_enter Tryz.func64, Tryz.ntmps64
  go_wp2_with (refine wpList_lookF _ rfl 78 76 HU.out HZ.out _ _ rfl B n f rfl M1.out op rfl HO.out ?_; rw [HL.out])
  go_ret
  exact ⟨_, rfl, MkOk.nothing _ _, Q2.out⟩
 ·obtain ⟨g, cap, rfl, hE, hc⟩ := hv
  have HV := hid (⟨g, cap, rfl, hE, hc⟩ : FnOk W (.func (.func g) #[] cap) 1 φ)
  have HL := hid (show lookF f op = .tuple #[.func (.func g) #[] cap, .bool true] by unfold lookF; rw [h0]; rfl)
  have q2 := q1.alloc q1.size (.cells #[.func (.func g) #[] cap] 76)
  have N2 := N1.alloc (.cells #[.func (.func g) #[] cap] 76)
  have R2 := Has.new (W.alloc (.cells #[.func (.func 66) #[] #[]] 80)) 76 #[.func (.func g) #[] cap]
  simp only [World.size_alloc] at R2
  have Q2 := hid q2
  have HN2 := hid N2
  have HR2 := hid R2
  rw [h0]
  clear hm ho h0 q1 q2 N1 N2 R2 hE hc
  go_enter Tryz.func64, Tryz.ntmps64
  go_wp2_with (refine wpList_lookF _ rfl 78 76 HU.out HZ.out _ _ rfl B n f rfl M1.out op rfl HO.out ?_; rw [HL.out])
  go_ret
  refine ⟨_, rfl, ⟨_, _, rfl, enters_of Tryz.func103 (by kernel_rfl) rfl, fun X hX hT tv l hl hw => ?_⟩, Q2.out⟩
  match l, hl with
  | [a], _ =>
   exact lk1_any W X _ tv φ a _ _ HV.out ((Keep.of Q2.out).trans hX) hT hw (hX.2 _ _ (HN2.out.cell 0 _ rfl)) (hX.2 _ _ (HR2.out.cell 0 _ rfl))
theorem look2_any (W : World) (B n : Nat) (f : Nat → Option Value) (hm : MapF W B n f) (op : Nat) (ho : op < 256) (φ : List Nat → Nat) (h0 : f op = none ∨ ∃ v, f op = some v ∧ FnOk W v 2 φ) :
  Calls Tryz.prog 67 #[.map (some B), .int .u8 (op : Int), .func (.func 69) #[] #[]] W fun e w' => ∃ v, e = .returned v ∧ MkOk w' v 2 (fun l => if (f op).isSome = true then [φ l] else []) ∧ Below W.heap.size W w' := by
 have HU := hid (show Tryz.prog.underlying 84 = some (.map tB 82) from Tryz.underlying84)
 have HZ := hid (show ∀ w, (zeroValue 82).run Tryz.prog w = .ok .nilFunc w from fun w => by kernel_rfl)
 have HM := hid hm
 have HO := hid ho
 have q1 := newA W (.cells #[.func (.func 69) #[] #[]] 86)
 have N1 := Has.new W 86 #[.func (.func 69) #[] #[]]
 have M1 := hid (hm.later q1)
 rcases h0 with h0 | ⟨v, h0, hv⟩
 ·have HL := hid (show lookF f op = .tuple #[.nilFunc, .bool false] by unfold lookF; rw [h0]; rfl)
  have q2 := q1.alloc q1.size (.cells #[.nilFunc] 82)
  have Q2 := hid q2
  rw [h0]
  clear hm ho h0 q1 q2 N1
  go_enter Tryz.func67, Tryz.ntmps67
  go_wp2_with (refine wpList_lookF _ rfl 84 82 HU.out HZ.out _ _ rfl B n f rfl M1.out op rfl HO.out ?_; rw [HL.out])
  go_ret
  exact ⟨_, rfl, MkOk.nothing _ _, Q2.out⟩
 ·obtain ⟨g, cap, rfl, hE, hc⟩ := hv
  have HV := hid (⟨g, cap, rfl, hE, hc⟩ : FnOk W (.func (.func g) #[] cap) 2 φ)
  have HL := hid (show lookF f op = .tuple #[.func (.func g) #[] cap, .bool true] by unfold lookF; rw [h0]; rfl)
  have q2 := q1.alloc q1.size (.cells #[.func (.func g) #[] cap] 82)
  have N2 := N1.alloc (.cells #[.func (.func g) #[] cap] 82)
  have R2 := Has.new (W.alloc (.cells #[.func (.func 69) #[] #[]] 86)) 82 #[.func (.func g) #[] cap]
  simp only [World.size_alloc] at R2
  have Q2 := hid q2
  have HN2 := hid N2
  have HR2 := hid R2
  rw [h0]
  clear hm ho h0 q1 q2 N1 N2 R2 hE hc
  go_enter Tryz.func67, Tryz.ntmps67
  go_wp2_with (refine wpList_lookF _ rfl 84 82 HU.out HZ.out _ _ rfl B n f rfl M1.out op rfl HO.out ?_; rw [HL.out])
  go_ret
  refine ⟨_, rfl, ⟨_, _, rfl, enters_of Tryz.func108 (by kernel_rfl) rfl, fun X hX hT tv l hl hw => ?_⟩, Q2.out⟩
  match l, hl with
  | [a, b], _ =>
   exact lk2_any W X _ tv φ a b _ _ HV.out ((Keep.of Q2.out).trans hX) hT hw (hX.2 _ _ (HN2.out.cell 0 _ rfl)) (hX.2 _ _ (HR2.out.cell 0 _ rfl))
theorem look3_any (W : World) (B n : Nat) (f : Nat → Option Value) (hm : MapF W B n f) (op : Nat) (ho : op < 256) (φ : List Nat → Nat) (h0 : f op = none ∨ ∃ v, f op = some v ∧ FnOk W v 3 φ) :
  Calls Tryz.prog 70 #[.map (some B), .int .u8 (op : Int), .func (.func 72) #[] #[]] W fun e w' => ∃ v, e = .returned v ∧ MkOk w' v 3 (fun l => if (f op).isSome = true then [φ l] else []) ∧ Below W.heap.size W w' := by
 have HU := hid (show Tryz.prog.underlying 90 = some (.map tB 88) from Tryz.underlying90)
 have HZ := hid (show ∀ w, (zeroValue 88).run Tryz.prog w = .ok .nilFunc w from fun w => by kernel_rfl)
 have HM := hid hm
 have HO := hid ho
 have q1 := newA W (.cells #[.func (.func 72) #[] #[]] 92)
 have N1 := Has.new W 92 #[.func (.func 72) #[] #[]]
 have M1 := hid (hm.later q1)
 rcases h0 with h0 | ⟨v, h0, hv⟩
 ·have HL := hid (show lookF f op = .tuple #[.nilFunc, .bool false] by unfold lookF; rw [h0]; rfl)
  have q2 := q1.alloc q1.size (.cells #[.nilFunc] 88)
  have Q2 := hid q2
  rw [h0]
  clear hm ho h0 q1 q2 N1
  go_enter Tryz.func70, Tryz.ntmps70
  go_wp2_with (refine wpList_lookF _ rfl 90 88 HU.out HZ.out _ _ rfl B n f rfl M1.out op rfl HO.out ?_; rw [HL.out])
  go_ret
  exact ⟨_, rfl, MkOk.nothing _ _, Q2.out⟩
 ·obtain ⟨g, cap, rfl, hE, hc⟩ := hv
  have HV := hid (⟨g, cap, rfl, hE, hc⟩ : FnOk W (.func (.func g) #[] cap) 3 φ)
  have HL := hid (show lookF f op = .tuple #[.func (.func g) #[] cap, .bool true] by unfold lookF; rw [h0]; rfl)
  have q2 := q1.alloc q1.size (.cells #[.func (.func g) #[] cap] 88)
  have N2 := N1.alloc (.cells #[.func (.func g) #[] cap] 88)
  have R2 := Has.new (W.alloc (.cells #[.func (.func 72) #[] #[]] 92)) 88 #[.func (.func g) #[] cap]
  simp only [World.size_alloc] at R2
  have Q2 := hid q2
  have HN2 := hid N2
  have HR2 := hid R2
  rw [h0]
  clear hm ho h0 q1 q2 N1 N2 R2 hE hc
  go_enter Tryz.func70, Tryz.ntmps70
  go_wp2_with (refine wpList_lookF _ rfl 90 88 HU.out HZ.out _ _ rfl B n f rfl M1.out op rfl HO.out ?_; rw [HL.out])
  go_ret
  refine ⟨_, rfl, ⟨_, _, rfl, enters_of Tryz.func129 (by kernel_rfl) rfl, fun X hX hT tv l hl hw => ?_⟩, Q2.out⟩
  match l, hl with
  | [a, b, c], _ =>
   exact lk3_any W X _ tv φ a b c _ _ HV.out ((Keep.of Q2.out).trans hX) hT hw (hX.2 _ _ (HN2.out.cell 0 _ rfl)) (hX.2 _ _ (HR2.out.cell 0 _ rfl))
theorem takes_is : ∀ op, op < 128 → isOp op = true → (takesN op = 1 → isOne op = false → op = 80) ∧ (takesN op = 2 → isTwo op = true) ∧ (takesN op = 3 → isThree op = true) := by decide +kernel
theorem MkOk.congr {W : World} {v : Value} {n : Nat} {m m' : List Nat → List Nat} (h : MkOk W v n m) (e : m = m') : MkOk W v n m' := e ▸ h
theorem maker1_any (W : World) (op : Nat) (ho : op < 256) (hop : isOp op = true ∧ op < 128) (hk : takesN op = 1) :
  Calls Tryz.prog 34 #[.int .u8 (op : Int), .int .i64 1] W fun e w' => ∃ v, e = .returned v ∧ MkOk w' v 1 (madeL op) ∧ Below W.heap.size W w' := by
 have HO := hid ho
 have HE := hid (show ∀ f : Nat → Option Value, ((isOne op = false → f op = none) ∧ (isOne op = true → ∃ v, f op = some v ∧ True)) → (fun l : List Nat => if (f op).isSome = true then [one' op l] else []) = madeL op from fun f h => by
  funext l
  unfold madeL
  cases hi : isOne op with
  | false =>
   rw [h.1 hi]
   have h80 : op = 80 := (takes_is op hop.2 hop.1).1 hk hi
   rw [if_pos h80]
   rfl
  | true =>
   obtain ⟨v, hv, _⟩ := h.2 hi
   have hn : op ≠ 80 := by unfold isOne at hi; have hi := of_decide_eq_true hi; omega
   rw [hv, hk, if_neg hn]
   rfl)
 clear ho hop hk
 go_enter Tryz.func34, Tryz.ntmps34
 go_wp2_with fail
 refine (ofOne_any _).mono ?_
 rintro _ w1 ⟨B, n, f, rfl, hm, q1, hf⟩
 have HF := hid (hf op HO.out)
 have HL := hid (look1_any w1 B n f hm op HO.out (one' op) (by
  cases hi : isOne op with
  | false => exact .inl (HF.out.1 hi)
  | true => exact .inr (HF.out.2 hi)))
 have Q1 := hid q1
 clear hm q1 hf
 go_wp2_with fail
 refine HL.out.mono ?_
 rintro _ w2 ⟨v, rfl, hv, q2⟩
 have HV := hid (hv.congr (HE.out f ⟨HF.out.1, fun h => let ⟨v, h1, _⟩ := HF.out.2 h; ⟨v, h1, trivial⟩⟩))
 have Q2 := hid (Q1.out.trans (q2.mono Q1.out.size))
 clear hv q2
 go_wp2
 go_ret
 exact ⟨_, rfl, HV.out, Q2.out⟩
theorem maker2_any (W : World) (op : Nat) (ho : op < 256) (hop : isOp op = true ∧ op < 128) (hk : takesN op = 2) :
  Calls Tryz.prog 34 #[.int .u8 (op : Int), .int .i64 2] W fun e w' => ∃ v, e = .returned v ∧ MkOk w' v 2 (madeL op) ∧ Below W.heap.size W w' := by
 have HO := hid ho
 have HE := hid (show ∀ f : Nat → Option Value, ((isTwo op = false → f op = none) ∧ (isTwo op = true → ∃ v, f op = some v ∧ True)) → (fun l : List Nat => if (f op).isSome = true then [two' op l] else []) = madeL op from fun f h => by
  funext l
  unfold madeL
  cases hi : isTwo op with
  | false =>
   rw [h.1 hi]
   have h80 : op = 80 := absurd ((takes_is op hop.2 hop.1).2.1 hk) (by rw [hi]; decide)
   rw [if_pos h80]
   rfl
  | true =>
   obtain ⟨v, hv, _⟩ := h.2 hi
   have hn : op ≠ 80 := by unfold isTwo at hi; have hi := of_decide_eq_true hi; omega
   rw [hv, hk, if_neg hn]
   rfl)
 clear ho hop hk
 go_enter Tryz.func34, Tryz.ntmps34
 go_wp2_with fail
 refine (ofTwo_any _).mono ?_
 rintro _ w1 ⟨B, n, f, rfl, hm, q1, hf⟩
 have HF := hid (hf op HO.out)
 have HL := hid (look2_any w1 B n f hm op HO.out (two' op) (by
  cases hi : isTwo op with
  | false => exact .inl (HF.out.1 hi)
  | true => exact .inr (HF.out.2 hi)))
 have Q1 := hid q1
 clear hm q1 hf
 go_wp2_with fail
 refine HL.out.mono ?_
 rintro _ w2 ⟨v, rfl, hv, q2⟩
 have HV := hid (hv.congr (HE.out f ⟨HF.out.1, fun h => let ⟨v, h1, _⟩ := HF.out.2 h; ⟨v, h1, trivial⟩⟩))
 have Q2 := hid (Q1.out.trans (q2.mono Q1.out.size))
 clear hv q2
 go_wp2
 go_ret
 exact ⟨_, rfl, HV.out, Q2.out⟩
theorem maker3_any (W : World) (op : Nat) (ho : op < 256) (hop : isOp op = true ∧ op < 128) (hk : takesN op = 3) :
  Calls Tryz.prog 34 #[.int .u8 (op : Int), .int .i64 3] W fun e w' => ∃ v, e = .returned v ∧ MkOk w' v 3 (madeL op) ∧ Below W.heap.size W w' := by
 have HO := hid ho
 have HE := hid (show ∀ f : Nat → Option Value, ((isThree op = false → f op = none) ∧ (isThree op = true → ∃ v, f op = some v ∧ True)) → (fun l : List Nat => if (f op).isSome = true then [three' op l] else []) = madeL op from fun f h => by
  funext l
  unfold madeL
  cases hi : isThree op with
  | false =>
   rw [h.1 hi]
   have h80 : op = 80 := absurd ((takes_is op hop.2 hop.1).2.2 hk) (by rw [hi]; decide)
   rw [if_pos h80]
   rfl
  | true =>
   obtain ⟨v, hv, _⟩ := h.2 hi
   have hn : op ≠ 80 := by unfold isThree at hi; have hi := of_decide_eq_true hi; omega
   rw [hv, hk, if_neg hn]
   rfl)
 clear ho hop hk
 go_enter Tryz.func34, Tryz.ntmps34
 go_wp2_with fail
 refine (ofThree_any _).mono ?_
 rintro _ w1 ⟨B, n, f, rfl, hm, q1, hf⟩
 have HF := hid (hf op HO.out)
 have HL := hid (look3_any w1 B n f hm op HO.out (three' op) (by
  cases hi : isThree op with
  | false => exact .inl (HF.out.1 hi)
  | true => exact .inr (HF.out.2 hi)))
 have Q1 := hid q1
 clear hm q1 hf
 go_wp2_with fail
 refine HL.out.mono ?_
 rintro _ w2 ⟨v, rfl, hv, q2⟩
 have HV := hid (hv.congr (HE.out f ⟨HF.out.1, fun h => let ⟨v, h1, _⟩ := HF.out.2 h; ⟨v, h1, trivial⟩⟩))
 have Q2 := hid (Q1.out.trans (q2.mono Q1.out.size))
 clear hv q2
 go_wp2
 go_ret
 exact ⟨_, rfl, HV.out, Q2.out⟩
theorem maker_any (W : World) (op : Nat) (ho : op < 256) (hop : isOp op = true ∧ op < 128) :
  Calls Tryz.prog 34 #[.int .u8 (op : Int), .int .i64 (takesN op : Int)] W fun e w' => ∃ v, e = .returned v ∧ MkOk w' v (takesN op) (madeL op) ∧ Below W.heap.size W w' := by
 rcases (show takesN op = 1 ∨ takesN op = 2 ∨ takesN op = 3 by unfold takesN; (repeat' split) <;> simp) with h | h | h
 ·have := maker1_any W op ho hop h; rw [h]; exact this
 ·have := maker2_any W op ho hop h; rw [h]; exact this
 ·have := maker3_any W op ho hop h; rw [h]; exact this
end
end Go.Proofs.YtnkhmgmganejmaaGreatDoor
