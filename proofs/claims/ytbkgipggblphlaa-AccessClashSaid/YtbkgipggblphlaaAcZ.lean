/- meet. Conditions: the keys lie in memory, and rise. -/
import Derived.Test.YtbkgipggblphlaaAcY
namespace Go.Proofs.Ytbkgipggblphlaa
open Go Go.RowKit Go.Shelf
attribute [local go_sem] Oper.semAt_some Grows wide_fn

theorem kboth_any (w : World) (sa sb : Value) (aa : Option Addr) (na ca : Nat) (ab : Option Addr) (nb cb : Nat) (ea : sa = .slice aa na ca) (eb : sb = .slice ab nb cb) :
    Calls Try.prog 58 #[sa, sb, .func (.func 9) #[] #[]] w fun e w' => e = .returned (.func (.func 64) #[] #[.pointer (some ⟨w.heap.size, 0, none⟩), .pointer (some ⟨w.heap.size + 1, 0, none⟩), .pointer (some ⟨w.heap.size + 1 + 1, 0, none⟩)]) ∧ w' = ((w.alloc (.cells #[sa] 22)).alloc (.cells #[sb] 22)).alloc (.cells #[.func (.func 9) #[] #[]] 37) := by
  subst ea eb
  go_enter Try.func58, Try.ntmps58
  go_wp2
  go_ret
  exact ⟨rfl, rfl⟩
/-- Have two lists a key in common? -/
def meetB (a b : List Ky) : Bool := a.any fun x => b.any fun y => decide (x = y)
theorem meetB_true {a b : List Ky} (h : ∃ x, x ∈ a ∧ x ∈ b) : meetB a b = true := by
  obtain ⟨x, h1, h2⟩ := h
  exact List.any_eq_true.2 ⟨x, h1, List.any_eq_true.2 ⟨x, h2, decide_eq_true rfl⟩⟩
theorem meetB_false {a b : List Ky} (h : ∀ x, x ∈ a → x ∈ b → False) : meetB a b = false := by
  refine Bool.eq_false_iff.2 fun hm => ?_
  obtain ⟨x, h1, h2⟩ := List.any_eq_true.1 hm
  obtain ⟨y, h3, h4⟩ := List.any_eq_true.1 h2
  have e := of_decide_eq_true h4
  subst e
  exact h x h1 h3
set_option maxRecDepth 100000 in
set_option maxHeartbeats 4000000 in
theorem kmeet_any (w : World) (sa sb : Value) (la lb : List Ky) (ha : KeysAt w sa la) (hb : KeysAt w sb lb) (hua : Kup la) (hub : Kup lb) :
    Calls Try.prog 40 #[sa, sb] w fun e w' => e = .returned (.bool (meetB la lb)) ∧ Below w.heap.size w w' := by
  have h1 : 1 ≤ 3 := by omega
  obtain ⟨mv, hmv⟩ : ∃ mv, meetB la lb = mv := ⟨_, rfl⟩
  have HMV := Lib.hid hmv
  rw [hmv]
  clear hmv
  obtain ⟨Post, hPost⟩ : ∃ Post : Ending → World → Prop, (fun (e : Ending) (w' : World) => e = .returned (.bool mv) ∧ Below w.heap.size w w') = Post := ⟨_, rfl⟩
  have hfin := Lib.hid (show ∀ X v, Below w.heap.size w X → mv = v → Post (.returned (.bool v)) X from fun X v hX h => by rw [← hPost, h]; exact ⟨rfl, hX⟩)
  rw [hPost]
  clear hPost
  obtain ⟨aa, ca, ea, _, _⟩ := ha.shape
  obtain ⟨ab, cb, eb, _, _⟩ := hb.shape
  refine (callsIn_wide (n := 3)).1 ?_
  refine callsIn_of_wp_marks Try.func40 rfl trivial ?_ rfl
  simp only [Try.ntmps40, List.size_toArray, List.length_cons, List.length_nil, Nat.reduceAdd, Nat.reduceSub, Array.replicate_succ, Array.replicate_zero, List.push_toArray, List.append_toArray, List.nil_append, List.cons_append]
  have HCB0 := (kboth_any (w.alloc (.cells #[.bool false] 4)) sa sb aa la.length ca ab lb.length cb ea eb)
  simp only [World.size_alloc] at HCB0
  have HCB := Lib.hid HCB0
  clear HCB0
  have HA := Lib.hid ha
  have HB := Lib.hid hb
  clear ha hb
  subst ea eb
  gi_wp2_with (gi_at_call 58; refine (callsIn_free free_wide HCB.out).mono ?_; rintro e w1 ⟨rfl, hw0⟩; have hw1 := Lib.hid hw0; clear hw0)
  have k0 := Boxed.new w 4 (.bool false)
  have k1 := Has.new (w.alloc (.cells #[.bool false] 4)) 22 #[.slice aa la.length ca]
  have k2 := Has.new ((w.alloc (.cells #[.bool false] 4)).alloc (.cells #[.slice aa la.length ca] 22)) 22 #[.slice ab lb.length cb]
  have k3 := Has.new (((w.alloc (.cells #[.bool false] 4)).alloc (.cells #[.slice aa la.length ca] 22)).alloc (.cells #[.slice ab lb.length cb] 22)) 37 #[.func (.func 9) #[] #[]]
  simp only [World.size_alloc] at k1 k2 k3
  have K0 : Boxed w1 w.heap.size 4 (.bool false) := by rw [hw1.out]; exact ((k0.alloc _).alloc _).alloc _
  have K1 : Has w1 (w.heap.size + 1) 22 #[.slice aa la.length ca] := by rw [hw1.out]; exact (k1.alloc _).alloc _
  have K2 : Has w1 (w.heap.size + 1 + 1) 22 #[.slice ab lb.length cb] := by rw [hw1.out]; exact k2.alloc _
  have K3 : Has w1 (w.heap.size + 1 + 1 + 1) 37 #[.func (.func 9) #[] #[]] := by rw [hw1.out]; exact k3
  have hB1 : Below w.heap.size w w1 := by
    rw [hw1.out]; exact ((((Below.refl _ w).alloc (Nat.le_refl _) _).alloc (by simp) _).alloc (by simp; omega) _).alloc (by simp; omega) _
  have hsz : w1.heap.size = w.heap.size + 4 := by rw [hw1.out]; simp
  clear hw1 k0 k1 k2 k3 HCB
  refine wpIn_rangeFunc_ownG rfl h1 (gf := 64) (lb := #[.pointer (some ⟨w.heap.size + 1, 0, none⟩), .pointer (some ⟨w.heap.size + 1 + 1, 0, none⟩), .pointer (some ⟨w.heap.size + 1 + 1 + 1, 0, none⟩)]) rfl trivial (enters_of Try.func64 (by kernel_rfl) rfl)
    (both_stops _ la lb _ _ (w.heap.size + 1) (w.heap.size + 1 + 1) (w.heap.size + 1 + 1 + 1) w1 (HA.out.later hB1) (HB.out.later hB1) hua hub K1 K2 K3) Below.trans (belowK_b (Nat.le_refl _)) (Below.refl _ _) (fun _ => rfl)
    (fun pre W => (Boxed W w.heap.size 4 (.bool false) ∧ pre = []) ∧ Below w.heap.size w W)
    (fun c _ W => (Boxed W w.heap.size 4 (.bool true) ∧ c = Code.ret) ∧ Below w.heap.size w W)
    ?hI ?hIx ⟨⟨K0, rfl⟩, hB1⟩
    (fun x => { tmps := #[.slice aa la.length ca, .slice ab lb.length cb, undef, undef, .pointer (some ⟨w.heap.size, 0, none⟩), .slice aa la.length ca, .slice ab lb.length cb, .func (.func 64) #[] #[.pointer (some ⟨w.heap.size + 1, 0, none⟩), .pointer (some ⟨w.heap.size + 1 + 1, 0, none⟩), .pointer (some ⟨w.heap.size + 1 + 1 + 1, 0, none⟩)], .agg (kyC x)], defers := [] }) ?assign ?body ?done ?stop
  case hI => exact OwnFrom.and (OwnFrom.and (Own.from (boxed_own _ _ (fun _ : List Ky => Value.bool false)) _) (ownFrom_pure _ _)) (ownFrom_below (Nat.le_refl _) (by omega))
  case hIx => exact fun c => OwnFrom.and (OwnFrom.and (Own.from (boxed_own _ _ (fun _ : List Ky => Value.bool true)) _) (ownFrom_pure _ _)) (ownFrom_below (Nat.le_refl _) (by omega))
  case assign =>
    intro l x W K hK
    gi_wp2
    simpa using hK
  case body =>
    rintro l pre x W ⟨⟨bb, hp⟩, hBw⟩ _
    have c0 := bb.cell
    have f0 := bb.frozen
    have HBB := Lib.hid bb
    have HBW := Lib.hid hBw
    clear bb hBw
    generalize kyC x = cx at *
    gi_wp2_with fail
    exact ⟨(KeepsOthers.setCell _ _ _).from _, ⟨HBB.out.set _, rfl⟩, HBW.out.setCell (p := ⟨w.heap.size, 0, none⟩) (Nat.le_refl _) _⟩
  case done =>
    rintro D xs W hD hS ⟨⟨bb, rfl⟩, hBw⟩ hK
    have c0 := bb.cell
    have f0 := bb.frozen
    have HBB := Lib.hid (bb.set (.bool false))
    have HBW := Lib.hid (hBw.setCell (p := ⟨w.heap.size, 0, none⟩) (Nat.le_refl _) (.bool false))
    have HS := Lib.hid (show mv = false from by rw [← HMV.out]; exact meetB_false (hS rfl))
    have hK' : (W.setCell ⟨w.heap.size, 0, none⟩ (.bool false)).heap[D]? = some (.deferred (some [])) := (KeepsOthers.setCell W ⟨w.heap.size, 0, none⟩ (.bool false)).same D _ hK rfl
    clear bb hBw hS
    gi_wp2_with fail
    refine ⟨by simp, .inl ⟨_, _, rfl, run_takeDeferred hK', ?_⟩⟩
    have b9 := HBB.out.kept (grownBy_putObj' _ D (.deferred none)) (fun e => by cases e; have := (show _ = _ from HBB.out).symm.trans hK'; cases this)
    have e0 := b9.cell
    refine ⟨.bool false, by simp [results, Try.f40, go_sem, e0], ?_⟩
    exact hfin.out _ _ (HBW.out.trans (belowK_b (w := w1) hB1.size _ D _ _ hD hK' rfl rfl)) HS.out
  case stop =>
    rintro D c pre W hD hSp ⟨⟨bb, rfl⟩, hBw⟩ hK
    have HBB := Lib.hid bb
    have HBW := Lib.hid hBw
    have HS := Lib.hid (show mv = true from by rw [← HMV.out]; exact meetB_true hSp)
    clear bb hBw hSp
    gi_wp2_with fail
    refine ⟨by simp, .inl ⟨_, _, rfl, run_takeDeferred hK, ?_⟩⟩
    have b9 := HBB.out.kept (grownBy_putObj' _ D (.deferred none)) (fun e => by cases e; have := (show _ = _ from HBB.out).symm.trans hK; cases this)
    have e0 := b9.cell
    refine ⟨.bool true, by simp [results, Try.f40, go_sem, e0], ?_⟩
    exact hfin.out _ _ (HBW.out.trans (belowK_b (w := w1) hB1.size _ D _ _ hD hK rfl rfl)) HS.out
end Go.Proofs.Ytbkgipggblphlaa
