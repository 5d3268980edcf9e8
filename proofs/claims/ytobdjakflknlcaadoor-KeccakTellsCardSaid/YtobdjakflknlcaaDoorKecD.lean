/- The walk of rho and pi: an iterator with a place of its own. Conditions: none. -/
import Derived.Test.YtobdjakflknlcaaDoorKecC
import Derived.Test.YtobdjakflknlcaaDoorSeqB
namespace Go.Proofs.YtobdjakflknlcaaDoor
open Go Go.RowKit Go.Shelf
attribute [local go_sem] Oper.semAt_some

/-- Blocks of cells from n on are as they were. -/
def KC (n : Nat) (A X : World) : Prop := ∀ b o, n ≤ b → A.heap[b]? = some o → o.isCells = true → X.heap[b]? = some o
theorem KC.refl (n : Nat) (A : World) : KC n A A := fun _ _ _ h _ => h
theorem KC.trans {n : Nat} {A B C : World} (h : KC n A B) (k : KC n B C) : KC n A C := fun b o hb ho hc => k b o hb (h b o hb ho hc) hc
theorem KC.put {n : Nat} (W : World) (l : Nat) (o o' : Obj) (_ : n ≤ l) (hl : W.heap[l]? = some o) (ho : o.isCells = false) (_ : o.isWalk = false) : KC n W (W.putObj l o') := fun b ob _ hob hc => by
  refine (World.putObj_heap_other (fun e => ?_)).trans hob
  subst e
  rw [hl] at hob
  cases hob
  rw [ho] at hc
  cases hc
theorem KC.later {n : Nat} {A X : World} (h : Below A.heap.size A X) : KC n A X := fun b o _ ho _ => (h.block b (Array.getElem?_eq_some_iff.1 ho).1).trans ho
theorem KC.set {n : Nat} (A : World) {p : Addr} (hp : p.block < n) (v : Value) : KC n A (A.setCell p v) := fun b o hb ho _ => (Below.heap_setCell A p v b (by omega)).trans ho
theorem Has.kc {n : Nat} {A X : World} {B : Nat} {t : TypeId} {cs : Array Value} (h : Has A B t cs) (hk : KC n A X) (hn : n ≤ B) : Has X B t cs := hk B _ hn h rfl

/-- A step's numbers, as values. -/
def wkV (k : Nat) : Array Value := #[.int .i64 (((k + 1) * (k + 2) / 2 : Nat) : Int), .agg #[.int .u64 (((wx k).1 : Nat) : Int), .int .u64 (((wx k).2 : Nat) : Int)]]

set_option maxRecDepth 100000 in
set_option maxHeartbeats 2000000 in
theorem walk_seq (n : Nat) (hn : 1 ≤ n) (w : World) : SeqB Fence.wide n Tryd.prog 29 #[] wkV (KC w.heap.size) 24 w := by
  intro l J Jx W hW hJA _ hY h0
  refine callsIn_of_wp Tryd.func29 rfl trivial ?_ rfl
  simp only [Tryd.ntmps29, List.size_toArray, List.length_cons, List.length_nil, Nat.reduceAdd, Nat.reduceSub, Array.replicate_succ, Array.replicate_zero, List.push_toArray, List.append_toArray, List.nil_append, List.cons_append]
  have HJA := Lib.hid hJA
  have hwW := hW.size
  have L0 := Has.new W 52 #[.int .u64 1, .int .u64 0]
  have J0 := hJA _ _ _ h0 ((Below.refl W.heap.size W).alloc (Nat.le_refl _) (.cells #[.int .u64 1, .int .u64 0] 52))
  have hs0 : W.heap.size < (W.alloc (.cells #[.int .u64 1, .int .u64 0] 52)).heap.size := by simp
  clear hJA h0
  gi_wp2
  gi_loopw [5] (fun i wr => ∃ k : Nat, k ≤ 24 ∧ i = .int .i64 k ∧ J k wr ∧ Has wr W.heap.size 52 #[.int .u64 (((wx k).1 : Nat) : Int), .int .u64 (((wx k).2 : Nat) : Int)] ∧ W.heap.size < wr.heap.size) (fun i _ => 24 - (intOf i).toNat)
  case atStart => exact ⟨0, Nat.zero_le _, rfl, J0, L0, hs0⟩
  case round =>
    obtain ⟨k, hk, rfl, hJs, hL, hsz⟩ := hrel
    clear J0 L0 hs0
    by_cases hlt : k < 24
    · obtain ⟨fn, tmps, assign, body, hy, hR⟩ := hY k wr hlt hJs
      unfold wkV at hy
      have hkI : (k : Int) < 24 := by omega
      have m0 : 0 ≤ ((k : Int) + 1) * ((k : Int) + 2) := by
        have := Int.mul_nonneg (show 0 ≤ (k : Int) + 1 by omega) (show 0 ≤ (k : Int) + 2 by omega); exact this
      have m1 : ((k : Int) + 1) * ((k : Int) + 2) ≤ 25 * 26 := Int.mul_le_mul (by omega) (by omega) (by omega) (by omega)
      have m2 : (((k : Int) + 1) * ((k : Int) + 2)).tdiv 2 = (((k + 1) * (k + 2) / 2 : Nat) : Int) := by
        rw [Int.tdiv_eq_ediv_of_nonneg m0, Int.natCast_ediv, Int.natCast_mul]; rfl
      have c0 := hL.cell 0 _ rfl
      have c1 := hL.cell 1 _ rfl
      have hx := (wx_lt k).1
      have hy5 := (wx_lt k).2
      have e1 : (((wx (k + 1)).1 : Nat) : Int) = (((wx k).2 : Nat) : Int) := rfl
      have e2 : (((wx (k + 1)).2 : Nat) : Int) = (2 * (((wx k).1 : Nat) : Int) + 3 * (((wx k).2 : Nat) : Int)) % 5 := by
        show (((2 * (wx k).1 + 3 * (wx k).2) % 5 : Nat) : Int) = _
        omega
      have HN := Lib.hid (next_ret _ _ ⟨Int.natCast_nonneg (wx k).1, by omega⟩ ⟨Int.natCast_nonneg (wx k).2, by omega⟩)
      have HE := Lib.hid (And.intro e1 e2)
      have HL := Lib.hid hL
      have HZ := Lib.hid hsz
      clear hx hy5 e1 e2 hL hsz
      have t0 : 0 ≤ (((k + 1) * (k + 2) / 2 : Nat) : Int) := Int.natCast_nonneg _
      have t1 : (((k + 1) * (k + 2) / 2 : Nat) : Int) < 1000 := by
        have : (k + 1) * (k + 2) ≤ 25 * 26 := Nat.mul_le_mul (by omega) (by omega)
        omega
      generalize (((k + 1) * (k + 2) / 2 : Nat) : Int) = tr at *
      gi_wp2
      refine hR.mono ?_
      rintro e W3 (⟨rfl, hJ3, hk3⟩ | ⟨rfl, hJx3⟩)
      · have L3 := HL.out.kc hk3 hwW
        have d0 := L3.cell 0 _ rfl
        have d1 := L3.cell 1 _ rfl
        have HJ3 := Lib.hid hJ3
        clear c0 c1 hJ3 hk3
        gi_wp2_with fail
        refine ⟨trivial, (callsIn_free free_wide (HN.out _)).mono ?_⟩
        rintro e W4 ⟨rfl, q⟩
        have L4 := L3.later q
        have J4 := Lib.hid (HJA.out _ _ _ HJ3.out (q.mono (by have := L3.lt; omega)))
        have f0 := L4.frozen 0
        have f1 := L4.frozen 1
        have g0 := L4.cell 0 _ rfl
        have g1 := L4.cell 1 _ rfl
        have HL4 := Lib.hid L4
        clear d0 d1 L3 L4 q
        gi_wp2
        go_roundw
        case rel =>
          refine ⟨k + 1, by omega, by simp, HJA.out _ _ _ J4.out (((Below.refl W.heap.size W4).setCell (Nat.le_refl _) _).setCell (Nat.le_refl _) _), ?_, by have := HL4.out.lt; simp; omega⟩
          rw [HE.out.1, HE.out.2]
          exact (HL4.out.set 0 _).set 1 _
        case measure => simp [intOf]; omega
      · gi_wp2
        refine bodyPost_ret (results_none rfl _ _ _) rfl ?_
        exact ⟨⟨_, rfl⟩, .inr ⟨k, hlt, hJx3⟩⟩
    · obtain rfl : k = 24 := by omega
      gi_wp2
      go_end0
      exact ⟨⟨_, rfl⟩, .inl hJs⟩
end Go.Proofs.YtobdjakflknlcaaDoor
