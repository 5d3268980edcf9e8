/- A row of a product: a word times a factor, added to places of a sum. For every word and factor. -/
import Derived.Test.YtnlcllhjhbaigaaWordB
import Derived.Test.YtnlcllhjhbaigaaGrown
import Derived.Test.YtnlcllhjhbaigaaPartsN
namespace Go.Proofs.Ytnlcllhjhbaigaa
open Go Go.RowKit Go.Shelf
attribute [local go_sem] Oper.semAt_some Grows wide_fn

/-- The carry into place k, and what place k becomes. -/
def rc (z : Nat → Int) (f : Int) (m : Nat → Int) : Nat → Int
  | 0 => 0
  | k + 1 => tpHi (z k) f (m k) (rc z f m k)
def ro (z : Nat → Int) (f : Int) (m : Nat → Int) (k : Nat) : Int := tpLo (z k) f (m k) (rc z f m k)
theorem rc_u64 (z : Nat → Int) (f : Int) (m : Nat → Int) (hz : ∀ k, U64 (z k)) (hf : U64 f) (hm : ∀ k, U64 (m k)) : ∀ k, U64 (rc z f m k)
  | 0 => ⟨by simp [rc], by simp [rc]⟩
  | k + 1 => (tp_bound _ _ _ _ (hz k) hf (hm k) (rc_u64 z f m hz hf hm k)).2
theorem ro_u64 (z : Nat → Int) (f : Int) (m : Nat → Int) (hz : ∀ k, U64 (z k)) (hf : U64 f) (hm : ∀ k, U64 (m k)) (k : Nat) : U64 (ro z f m k) :=
  (tp_bound _ _ _ _ (hz k) hf (hm k) (rc_u64 z f m hz hf hm k)).1

/-- The places from off on that have been gone through. -/
def rowAt (z : Nat → Int) (f : Int) (M : Nat → Int) (off k j : Nat) : Int := if off ≤ j ∧ j < off + k then ro z f (fun i => M (off + i)) (j - off) else M j
theorem rowAt_zero (z : Nat → Int) (f : Int) (M : Nat → Int) (off : Nat) : rowAt z f M off 0 = M := by funext j; unfold rowAt; rw [if_neg (by omega)]
theorem rowAt_here (z : Nat → Int) (f : Int) (M : Nat → Int) (off k : Nat) : rowAt z f M off k (off + k) = M (off + k) := by unfold rowAt; rw [if_neg (by omega)]
theorem rowAt_succ (z : Nat → Int) (f : Int) (M : Nat → Int) (off k : Nat) : rowAt z f M off (k + 1) = fun j => if j = off + k then ro z f (fun i => M (off + i)) k else rowAt z f M off k j := by
  funext j; unfold rowAt
  by_cases h : j = off + k
  · subst h; rw [if_pos (by omega), if_pos rfl, show off + k - off = k by omega]
  · rw [if_neg h]
    by_cases h2 : off ≤ j ∧ j < off + k
    · rw [if_pos (by omega), if_pos h2]
    · rw [if_neg (by omega), if_neg h2]

/-- What the call's own blocks and the sum hold when k places have been gone through. -/
def RowSt (w : World) (S _ba off n : Nat) (z : Nat → Int) (f : Int) (M : Nat → Int) (k : Nat) (W : World) : Prop :=
  (Boxed W w.heap.size 68 (.slice (some ⟨S, off, none⟩) n n) ∧ Boxed W (w.heap.size + 1) 22 (.int .u64 f) ∧ Boxed W (w.heap.size + 1 + 1) 22 (.int .u64 (rc z f (fun i => M (off + i)) k)) ∧
    Arr4 W S 24 (rowAt z f M off k)) ∧ w.grownBy W (some S) ∧ w.heap.size + 4 ≤ W.heap.size
theorem size_own {β : Type} (B n : Nat) : OwnFrom B (fun (_ : β) W => n ≤ W.heap.size) := fun _ _ _ _ hs hg _ => Nat.le_trans hs hg.size
theorem grownBy_own {β : Type} (w : World) (S B : Nat) (hB : w.heap.size ≤ B) : OwnFrom B (fun (_ : β) W => w.grownBy W (some S)) := fun _ X Y row hs hg hr =>
  ⟨hg.os.trans hs.os, hg.tape.trans hs.tape, hg.output.trans hs.output, Nat.le_trans hs.size hg.size, fun k hk hne => (hg.block k (Nat.lt_of_lt_of_le hk hs.size) (fun e => by
    obtain ⟨h1, _⟩ := hr k e.symm
    omega)).trans (hs.block k hk hne)⟩
theorem RowSt.own (w : World) (S ba off n : Nat) (z : Nat → Int) (f : Int) (M : Nat → Int) (B : Nat) (hB : w.heap.size ≤ B) : OwnFrom B (fun k W => RowSt w S ba off n z f M k W) :=
  OwnFrom.and (Own.from (fun s X Y row hs hg hr => ⟨boxed_own _ _ (fun _ : Nat => _) s X Y row hs.1 hg hr, boxed_own _ _ (fun _ : Nat => _) s X Y row hs.2.1 hg hr,
    boxed_own _ _ (fun k : Nat => Value.int .u64 (rc z f (fun i => M (off + i)) k)) s X Y row hs.2.2.1 hg hr, Arr4.own S _ (fun k : Nat => rowAt z f M off k) s X Y row hs.2.2.2 hg hr⟩) _) (OwnFrom.and (grownBy_own w S B hB) (size_own _ _))

set_option maxRecDepth 100000 in
set_option maxHeartbeats 2000000 in
theorem addRow_any (z : Nat → Int) (f : Int) (M : Nat → Int) (hz : ∀ k, U64 (z k)) (hf : U64 f) (hM : ∀ k, U64 (M k)) (S ba off n : Nat) (hn : off + n = 4) (w : World) (hba : ba < w.heap.size) (hne : ba ≠ S)
    (hA : ∀ j, j < 4 → w.cell? ⟨ba, j, none⟩ = some (.int .u64 (z j))) (hS : Arr4 w S 24 M) :
    Calls Try.prog 58 #[.slice (some ⟨S, off, none⟩) n n, .pointer (some ⟨ba, 0, none⟩), .int .u64 f] w fun e w' =>
      e = .returned (.tuple #[]) ∧ Arr4 w' S 24 (rowAt z f M off n) ∧ w.grownBy w' (some S) := by
  have h1 : 1 ≤ 3 := by omega
  have hSlt := hS.lt
  refine (callsIn_wide (n := 3)).1 ?_
  refine callsIn_of_wp_marks Try.func58 rfl trivial ?_ rfl
  simp only [Try.ntmps58, List.size_toArray, List.length_cons, List.length_nil, Nat.reduceAdd, Nat.reduceSub, Array.replicate_succ, Array.replicate_zero, List.push_toArray, List.append_toArray, List.nil_append, List.cons_append]
  gi_wp2_with (gi_at_call 57; refine (callsIn_free free_wide (parts_any _ _)).mono ?_; rintro e w' ⟨rfl, rfl⟩)
  obtain ⟨W0, hW0⟩ : ∃ W0, ((((w.alloc (.cells #[.slice (some ⟨S, off, none⟩) n n] 68)).alloc (.cells #[.int .u64 f] 22)).alloc (.cells #[.int .u64 0] 22)).alloc (.cells #[.pointer (some ⟨ba, 0, none⟩)] 57)) = W0 := ⟨_, rfl⟩
  have hG0 : w.grownBy W0 (some S) := by
    rw [← hW0]; exact grown_of_below (((((Below.refl _ w).alloc (Nat.le_refl _) _).alloc (by simp) _).alloc (by simp; omega) _).alloc (by simp; omega) _) _
  have hsz : W0.heap.size = w.heap.size + 4 := by rw [← hW0]; simp
  have bP : Boxed W0 (w.heap.size + 1 + 1 + 1) 57 (.pointer (some ⟨ba, 0, none⟩)) := by
    have h := Boxed.new (((w.alloc (.cells #[.slice (some ⟨S, off, none⟩) n n] 68)).alloc (.cells #[.int .u64 f] 22)).alloc (.cells #[.int .u64 0] 22)) 57 (.pointer (some ⟨ba, 0, none⟩))
    rw [hW0] at h; simpa using h
  have hJ0 : RowSt w S ba off n z f M 0 W0 := by
    refine ⟨?_, hG0, by omega⟩
    rw [rowAt_zero, ← hW0]
    refine ⟨?_, ?_, ?_, ?_⟩
    · exact (((Boxed.new w _ _).alloc _).alloc _).alloc _
    · have h := Boxed.new (w.alloc (.cells #[.slice (some ⟨S, off, none⟩) n n] 68)) 22 (.int .u64 f)
      rw [World.size_alloc] at h
      exact (h.alloc _).alloc _
    · have h := Boxed.new ((w.alloc (.cells #[.slice (some ⟨S, off, none⟩) n n] 68)).alloc (.cells #[.int .u64 f] 22)) 22 (.int .u64 0)
      rw [World.size_alloc, World.size_alloc] at h
      exact h.alloc _
    · exact (((hS.alloc _).alloc _).alloc _).alloc _
  rw [hW0]
  clear hW0
  have hA' : ∀ j, j < 4 → W0.cell? ⟨ba, j, none⟩ = some (.int .u64 (z j)) := fun j hj => (World.cell?_of_block (w := w) (hG0.block ba hba (fun e => hne (by injection e)))).trans (hA j hj)
  refine wpIn_rangeFunc_N1 rfl h1 (gf := 65) (lb := #[.pointer (some ⟨w.heap.size + 1 + 1 + 1, 0, none⟩)]) rfl trivial (enters_of Try.func65 (by kernel_rfl) rfl)
    (parts_seq _ (by omega) _ ba z W0 (by omega) (by omega) bP.cell hA') KeepsAt.trans (KeepsAt.refl _) (KeepsAt.b (by simp; omega)) (fun _ _ => rfl)
    (fun k W => k ≤ n ∧ RowSt w S ba off n z f M k W)
    (fun c k W => c = .ret ∧ k = n ∧ RowSt w S ba off n z f M k W)
    (OwnFrom.and (ownFrom_pure _ _) (RowSt.own w S ba off n z f M _ (by omega)))
    (fun c => OwnFrom.and (ownFrom_pure _ _) (OwnFrom.and (ownFrom_pure _ _) (RowSt.own w S ba off n z f M _ (by omega))))
    ⟨Nat.zero_le _, hJ0⟩
    (fun k => { tmps := #[.slice (some ⟨S, off, none⟩) n n, .pointer (some ⟨ba, 0, none⟩), .int .u64 f, .pointer (some ⟨w.heap.size, 0, none⟩), undef, .pointer (some ⟨w.heap.size + 1, 0, none⟩), .pointer (some ⟨w.heap.size + 1 + 1, 0, none⟩), .int .i64 (k : Int), .int .u64 (z k), .pointer (some ⟨ba, 0, none⟩), .func (.func 65) #[] #[.pointer (some ⟨w.heap.size + 1 + 1 + 1, 0, none⟩)], .int .i64 (k : Int), .int .u64 (z k), undef, undef, undef, undef, undef, undef, undef, undef, undef, undef, undef, undef, undef, undef, undef, undef, undef, undef], defers := [] }) ?assign ?body ?done ?stop
  case assign =>
    intro l k W K _ hK
    gi_wp2
    exact hK
  case body =>
    rintro l k W _ hk4 ⟨hkn, ⟨b3, b5, b6, bS⟩, hG, hsW⟩
    have hmx : Try.prog.follows .mixedOrders = true := by kernel_rfl
    have c3 := b3.cell
    by_cases hkn' : k = n
    · subst hkn'
      clear hA hA' hz hf hM
      gi_wp2
      exact ⟨KeepsFrom.refl _ _, rfl, rfl, ⟨b3, b5, b6, bS⟩, hG, hsW⟩
    · have hlt : k < n := by omega
      have hn3 : ((k : Int) == (n : Int)) = false := by simp; omega
      have hn4 : (k == n) = false := by simp; omega
      have hk0 : (0 : Int) ≤ (k : Int) := by omega
      have hkI : (k : Int) < (n : Int) := by omega
      have hm : ∀ i, U64 ((fun i => M (off + i)) i) := fun i => hM _
      have hcall := Ret.of_same (timesPlus_any (z k) f (M (off + k)) (rc z f (fun i => M (off + i)) k) (hz k) hf (hM _) (rc_u64 z f _ hz hf hm k))
      have cS : W.cell? ⟨S, off + k, none⟩ = some (.int .u64 (M (off + k))) := by have := bS.cell (j := off + k) (by omega); rw [rowAt_here] at this; exact this
      have e3 : ∀ x : Ext W, x.w.cell? ⟨w.heap.size, 0, none⟩ = some (.slice (some ⟨S, off, none⟩) n n) := fun x => (x.cell b3.lt).trans c3
      have e5 : ∀ x : Ext W, x.w.cell? ⟨w.heap.size + 1, 0, none⟩ = some (.int .u64 f) := fun x => (x.cell b5.lt).trans b5.cell
      have e6 : ∀ x : Ext W, x.w.cell? ⟨w.heap.size + 1 + 1, 0, none⟩ = some (.int .u64 (rc z f (fun i => M (off + i)) k)) := fun x => (x.cell b6.lt).trans b6.cell
      have eS : ∀ x : Ext W, x.w.cell? ⟨S, off + k, none⟩ = some (.int .u64 (M (off + k))) := fun x => (x.cell (p := ⟨S, _, none⟩) bS.lt).trans cS
      have g6 : ∀ x : Ext W, x.w.frozen? ⟨w.heap.size + 1 + 1, 0, none⟩ = false := fun x => (x.frozen b6.lt).trans b6.frozen
      have gS : ∀ x : Ext W, x.w.frozen? ⟨S, off + k, none⟩ = false := fun x => (x.frozen (p := ⟨S, _, none⟩) bS.lt).trans (bS.frozen _)
      have HR := Lib.hid (rowAt_succ z f M off k)
      have HC : Hid (rc z f (fun i => M (off + i)) (k + 1) = tpHi (z k) f (M (off + k)) (rc z f (fun i => M (off + i)) k)) := rfl
      have HO : Hid (ro z f (fun i => M (off + i)) k = tpLo (z k) f (M (off + k)) (rc z f (fun i => M (off + i)) k)) := rfl
      have HB := Lib.hid bS
      clear cS hz hf hM hm hA hA' bS
      gi_wp2
      refine wpIn_region_mix (C := Grows W) (free_round l) [some true, some true, some true, some true, some true, some true, some true, some true, some true, some true, some true, some true, some false, some true, none, none] hmx (by kernel_rfl) (by kernel_rfl) (grows_refl W) ?_
      simp only [headOf, tailOf]
      repeat (go_big_quiet_step (exact Ret.at hcall _))
      refine wpQuiet_nil ?_
      rintro _ ⟨x, rfl⟩
      go_wp2
      rw [calmPost_normal]
      have bS := HB.out
      have hx := x.below
      have hGx := grown_then_below hG hx
      refine ⟨((x.keeps _).trans ((KeepsOthers.setCell _ _ _).from _)).trans ((KeepsOthers.setCell _ _ _).from _), ?_, by omega, ⟨?_, ?_, ?_, ?_⟩, ?_, Nat.le_trans hsW (Nat.le_trans hx.size (by simp [World.setCell]))⟩
      · exact (((KeepsAt.refl _ _).below hx (fun b hb => by simp at hb; omega)).setCell (by simp; omega) _).setCell (by simp; omega) _
      · exact Boxed.away (Boxed.away (Boxed.below b3 hx b3.lt) (by first | omega | (simp; done) | (simp; omega)) _) (by first | omega | (simp; done) | (simp; omega)) _
      · exact Boxed.away (Boxed.away (Boxed.below b5 hx b5.lt) (by first | omega | (simp; done) | (simp; omega)) _) (by first | omega | (simp; done) | (simp; omega)) _
      · rw [HC.out]
        exact Boxed.set _ (Boxed.away (Boxed.below b6 hx b6.lt) (by first | omega | (simp; done) | (simp; omega)) _)
      · rw [HR.out, HO.out]
        exact Arr4.other (Arr4.set (Arr4.below bS hx bS.lt) (k := off + k) (by omega) _) (by first | omega | (simp; done) | (simp; omega)) _
      · exact grown_set (grown_set hGx (.inl rfl) _) (.inr (by simp; omega)) _
  case done =>
    rintro D W hD ⟨h4, hst⟩ hK
    obtain rfl : n = 4 := by omega
    gi_wp2
    refine ⟨by simp, .inl ⟨_, _, rfl, run_takeDeferred hK, ?_⟩⟩
    exact ⟨_, results_none rfl _ _ _, rfl, Arr4.kept hst.1.2.2.2 (grownBy_putObj' _ D (.deferred none)) (fun e => by cases e; have := (show _ = _ from hst.1.2.2.2).symm.trans hK; cases this), grown_putObj hst.2.1 (by omega) _⟩
  case stop =>
    rintro D c k W hD hk4 ⟨rfl, rfl, hst⟩ hK
    gi_wp2
    refine ⟨by simp, .inl ⟨_, _, rfl, run_takeDeferred hK, ?_⟩⟩
    exact ⟨_, results_none rfl _ _ _, rfl, Arr4.kept hst.1.2.2.2 (grownBy_putObj' _ D (.deferred none)) (fun e => by cases e; have := (show _ = _ from hst.1.2.2.2).symm.trans hK; cases this), grown_putObj hst.2.1 (by omega) _⟩
end Go.Proofs.Ytnlcllhjhbaigaa
