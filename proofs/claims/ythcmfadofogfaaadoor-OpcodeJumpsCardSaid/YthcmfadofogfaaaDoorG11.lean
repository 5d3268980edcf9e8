/- Part. -/
import Derived.Test.YthcmfadofogfaaaDoorG10
import Derived.Test.YthcmfadofogfaaaDoorG04
import Derived.Test.YthcmfadofogfaaaDoorG08
set_option maxRecDepth 100000
set_option maxHeartbeats 16000000
namespace Go.Proofs.YthcmfadofogfaaaDoor
section
open Go Go.RowKit Go.Maps
attribute [local go_sem] Oper.semAt_some Grows wide_fn
def saidOpB (op : Nat) : Bool :=
 match opI op with
 | none => !(96 ≤ op && op ≤ 159)
 | some x => x.1 != [] && (if 96 ≤ op ∧ op ≤ 127 then x.2.1 == 0 && x.2.2.1 == 1 && x.2.2.2 == 3 else if 128 ≤ op ∧ op ≤ 143 then x.2.2.1 == x.2.1 + 1 && x.2.1 + 127 == op else if 144 ≤ op ∧ op ≤ 159 then x.2.2.1 == x.2.1 && x.2.1 + 142 == op else x.2.2.1 ≤ 1 && x.2.1 ≤ 7) && x.2.1 ≤ 20 && x.2.2.1 ≤ 20 && x.2.2.2 ≤ 100000
theorem saidOpB_all : ∀ op, op < 256 → saidOpB op = true := by decide +kernel
structure IfP (op : Nat) (s : ByteArray) (po pu ga : Nat) (b : Bool) : Prop where
 val : lookV opI op = .tuple #[.agg #[.string s, .int .i64 (po : Int), .int .i64 (pu : Int), .int .i64 (ga : Int)], .bool b]
 nam : b = true → s.data.toList = titleL op ∧ s ≠ ⟨#[]⟩
 non : b = false → s = ⟨#[]⟩
 le : po ≤ 20 ∧ pu ≤ 20 ∧ ga ≤ 100000
 psh : 96 ≤ op → op ≤ 127 → b = true ∧ po = 0 ∧ pu = 1 ∧ ga = 3
 dup : 128 ≤ op → op ≤ 143 → b = true ∧ pu = po + 1 ∧ po + 127 = op
 swp : 144 ≤ op → op ≤ 159 → b = true ∧ pu = po ∧ po + 142 = op
 els : op < 96 ∨ 159 < op → pu ≤ 1 ∧ po ≤ 7
theorem info_op (op : Nat) (ho : op < 256) : ∃ s po pu ga b, IfP op s po pu ga b := by
 have h := saidOpB_all op ho
 unfold saidOpB at h
 cases e : opI op with
 | none =>
  rw [e] at h
  simp at h
  exact ⟨⟨#[]⟩, 0, 0, 0, false, by unfold lookV; rw [e]; rfl, by simp, by simp, by omega, by omega, by omega, by omega, by omega⟩
 | some x =>
  obtain ⟨nm, po, pu, ga⟩ := x
  rw [e] at h
  simp only [Bool.and_eq_true, bne_iff_ne, decide_eq_true_eq] at h
  obtain ⟨⟨⟨⟨h1, h2⟩, h3⟩, h4⟩, h5⟩ := h
  refine ⟨⟨nm.toArray⟩, po, pu, ga, true, by unfold lookV; rw [e]; rfl, fun _ => ⟨by unfold titleL; rw [e], fun k => h1 (by injection k with k; simpa using k)⟩, by simp, ⟨h3, h4, h5⟩, fun a b => ?_, fun a b => ?_, fun a b => ?_, fun a => ?_⟩
  ·rw [if_pos ⟨a, b⟩] at h2; simp at h2; exact ⟨rfl, h2.1.1, h2.1.2, h2.2⟩
  ·rw [if_neg (by omega), if_pos ⟨a, b⟩] at h2; simp at h2; exact ⟨rfl, h2⟩
  ·rw [if_neg (by omega), if_neg (by omega), if_pos ⟨a, b⟩] at h2; simp at h2; exact ⟨rfl, h2⟩
  ·rw [if_neg (by omega), if_neg (by omega), if_neg (by omega)] at h2; simp at h2; exact h2
theorem opcodeInfos_any (W : World) (one two : Int) (h1 : I64 one) (h2 : I64 two) : Calls Tryd.prog 6 #[.int .i64 one, .int .i64 two] W fun e w' => e = .returned (.bool true) ∧ Below W.heap.size W w' := by
 have P1 := hid (pick_ret one h1 256 (by decide) (by decide))
 have P2 := hid (pick_ret two h2 256 (by decide) (by decide))
 have r1 := pickN_range one 256 (by decide)
 have r2 := pickN_range two 256 (by decide)
 generalize pickN one 256 = p1 at *
 generalize pickN two 256 = p2 at *
 obtain ⟨x, rfl⟩ : ∃ x : Nat, p1 = (x : Int) := ⟨p1.toNat, by omega⟩
 obtain ⟨y, rfl⟩ : ∃ y : Nat, p2 = (y : Int) := ⟨p2.toNat, by omega⟩
 have X0 : (0 : Int) ≤ (x : Int) := by omega
 have X1 : (x : Int) < 256 := by omega
 have Y0 : (0 : Int) ≤ (y : Int) := by omega
 have Y1 : (y : Int) < 256 := by omega
 have HXY := hid (show x < 256 ∧ y < 256 by omega)
 obtain ⟨s, po, pu, ga, b, hi⟩ := info_op x (by omega)
 obtain ⟨s', po', pu', ga', b', hi'⟩ := info_op y (by omega)
 have HI := hid hi
 have HI' := hid hi'
 clear h1 h2 r1 r2 hi hi'
 go_enter Tryd.func6, Tryd.ntmps6
 go_wp2_with fail
 refine (awake_any _).mono ?_
 rintro _ w1 ⟨rfl, q⟩
 have QQ := hid q
 clear q
 go_wp2_with fail
 refine (P1.out _).mono ?_
 rintro _ w2 ⟨rfl, q2⟩
 replace QQ := hid (QQ.out.trans (q2.mono QQ.out.size))
 clear q2
 go_wp2_with fail
 refine (P2.out _).mono ?_
 rintro _ w3 ⟨rfl, q3⟩
 replace QQ := hid (QQ.out.trans (q3.mono QQ.out.size))
 clear q3
 go_wp2_with fail
 refine (info_any x HXY.out.1 _).mono ?_
 rintro _ w4 ⟨rfl, q⟩
 replace QQ := hid (QQ.out.trans (q.mono QQ.out.size))
 clear q
 rw [HI.out.val]
 obtain ⟨V1, hV1⟩ : ∃ V, w4.alloc (.cells #[.string s, .int .i64 (po : Int), .int .i64 (pu : Int), .int .i64 (ga : Int)] 25) = V := ⟨_, rfl⟩
 have q := hV1 ▸ newA w4 (.cells #[.string s, .int .i64 (po : Int), .int .i64 (pu : Int), .int .i64 (ga : Int)] 25)
 have hh : Has V1 w4.heap.size 25 #[.string s, .int .i64 (po : Int), .int .i64 (pu : Int), .int .i64 (ga : Int)] := hV1 ▸ Has.new _ _ _
 have HV1 := hid hV1
 clear hV1
 replace QQ := hid (QQ.out.trans (q.mono QQ.out.size))
 clear q
 have N1 := hid hh
 clear hh
 go_wp2_with fail
 rw [HV1.out]
 refine (info_any y HXY.out.2 _).mono ?_
 rintro _ w5 ⟨rfl, q⟩
 replace N1 := hid (N1.out.later q)
 replace QQ := hid (QQ.out.trans (q.mono QQ.out.size))
 clear q
 rw [HI'.out.val]
 obtain ⟨V2, hV2⟩ : ∃ V, w5.alloc (.cells #[.string s', .int .i64 (po' : Int), .int .i64 (pu' : Int), .int .i64 (ga' : Int)] 25) = V := ⟨_, rfl⟩
 have q := hV2 ▸ newA w5 (.cells #[.string s', .int .i64 (po' : Int), .int .i64 (pu' : Int), .int .i64 (ga' : Int)] 25)
 have hh : Has V2 w5.heap.size 25 #[.string s', .int .i64 (po' : Int), .int .i64 (pu' : Int), .int .i64 (ga' : Int)] := hV2 ▸ Has.new _ _ _
 have HV2 := hid hV2
 clear hV2
 replace N1 := hid (N1.out.later q)
 replace QQ := hid (QQ.out.trans (q.mono QQ.out.size))
 clear q
 have N2 := hid hh
 clear hh
 have hv := HV2.out
 subst hv
 have n1 := N1.out
 have n2 := N2.out
 have ic0 := n1.cell 0 _ rfl
 have ic1 := n1.cell 1 _ rfl
 have ic2 := n1.cell 2 _ rfl
 have ic3 := n1.cell 3 _ rfl
 have jc0 := n2.cell 0 _ rfl
 clear n1 n2 N1 N2 HV1 HV2
 have d1 : (0 : Int) ≤ (po : Int) := by omega
 have d2 : (0 : Int) ≤ (pu : Int) := by omega
 have d3 : (0 : Int) ≤ (ga : Int) := by omega
 have d4 : (po : Int) ≤ 20 := by have := HI.out.le; omega
 cases b with
 | false =>
  have e := HI.out.non rfl
  subst e
  have HL := hid (show x < 96 ∨ 159 < x by
   have h := HI.out
   by_cases a : x < 96
   ·exact .inl a
   ·by_cases a1 : x ≤ 127
    ·have := (h.psh (by omega) a1).1; cases this
    ·by_cases a2 : x ≤ 143
     ·have := (h.dup (by omega) a2).1; cases this
     ·by_cases a3 : x ≤ 159
      ·have := (h.swp (by omega) a3).1; cases this
      ·exact .inr (by omega))
  have d5 : (pu : Int) ≤ 1 := by have := HI.out.els HL.out; omega
  have d6 : (po : Int) ≤ 7 := by have := HI.out.els HL.out; omega
  have HL' := HL.out
  rcases HL' with l | l
  ·have l1 : (x : Int) < 96 := by omega
   clear l
   go_wp2_with fail
   go_ret
   exact ⟨rfl, QQ.out⟩
  ·have l1 : (159 : Int) < (x : Int) := by omega
   clear l
   go_wp2_with fail
   go_ret
   exact ⟨rfl, QQ.out⟩
 | true =>
  have hne := (HI.out.nam rfl).2
  have hem : s.toList.isEmpty = false := by
   rw [ByteArray.toList_eq]
   cases h : s.data.toList with
   | nil => exact absurd (by apply ByteArray.ext; apply Array.ext'; simpa using h) hne
   | cons _ _ => rfl
  have HL := hid (show (x < 96 ∨ 159 < x) ∨ (96 ≤ x ∧ x ≤ 127) ∨ (128 ≤ x ∧ x ≤ 143) ∨ (144 ≤ x ∧ x ≤ 159) by omega)
  cases b' with
  | false =>
   have HL' := HL.out
   rcases HL' with (l | l) | l | l | l
   ·have l1 : (x : Int) < 96 := by omega
    have d5 : (pu : Int) ≤ 1 := by have := HI.out.els (.inl l); omega
    have d6 : (po : Int) ≤ 7 := by have := HI.out.els (.inl l); omega
    clear l
    go_wp2_with fail
    go_ret
    exact ⟨rfl, QQ.out⟩
   ·have l1 : (159 : Int) < (x : Int) := by omega
    have d5 : (pu : Int) ≤ 1 := by have := HI.out.els (.inr l); omega
    have d6 : (po : Int) ≤ 7 := by have := HI.out.els (.inr l); omega
    clear l
    go_wp2_with fail
    go_ret
    exact ⟨rfl, QQ.out⟩
   ·have l1 : (96 : Int) ≤ (x : Int) := by omega
    have l2 : (x : Int) ≤ 127 := by omega
    obtain ⟨_, rfl, rfl, rfl⟩ := HI.out.psh l.1 l.2
    clear l
    go_wp2_with fail
    go_ret
    exact ⟨rfl, QQ.out⟩
   ·have l1 : (128 : Int) ≤ (x : Int) := by omega
    have l2 : (x : Int) ≤ 143 := by omega
    obtain ⟨_, e1, e2⟩ := HI.out.dup l.1 l.2
    have d5 : (pu : Int) = (po : Int) + 1 := by omega
    have d6 : (po : Int) = (x : Int) - 127 := by omega
    clear e1 e2
    clear l
    go_wp2_with fail
    go_ret
    exact ⟨rfl, QQ.out⟩
   ·have l1 : (144 : Int) ≤ (x : Int) := by omega
    have l2 : (x : Int) ≤ 159 := by omega
    obtain ⟨_, e1, e2⟩ := HI.out.swp l.1 l.2
    have d5 : (pu : Int) = (po : Int) := by omega
    have d6 : (po : Int) = (x : Int) - 142 := by omega
    clear e1 e2
    clear l
    go_wp2_with fail
    go_ret
    exact ⟨rfl, QQ.out⟩
  | true =>
   by_cases hxy : x = y
   ·subst hxy
    have hv := HI'.out.val
    rw [HI.out.val] at hv
    injection hv with hv
    simp only [Array.mk.injEq, List.cons.injEq, Value.agg.injEq, Value.string.injEq, and_true, Value.int.injEq, true_and] at hv
    obtain ⟨e1, hrest⟩ := hv
    clear hrest
    subst e1
    have hst : (s.toList == s.toList) = true := by simp
    have hxb : ((x : Int) == (x : Int)) = true := by simp
    have HL' := HL.out
    rcases HL' with (l | l) | l | l | l
    ·have l1 : (x : Int) < 96 := by omega
     have d5 : (pu : Int) ≤ 1 := by have := HI.out.els (.inl l); omega
     have d6 : (po : Int) ≤ 7 := by have := HI.out.els (.inl l); omega
     clear l
     go_wp2_with fail
     go_ret
     exact ⟨rfl, QQ.out⟩
    ·have l1 : (159 : Int) < (x : Int) := by omega
     have d5 : (pu : Int) ≤ 1 := by have := HI.out.els (.inr l); omega
     have d6 : (po : Int) ≤ 7 := by have := HI.out.els (.inr l); omega
     clear l
     go_wp2_with fail
     go_ret
     exact ⟨rfl, QQ.out⟩
    ·have l1 : (96 : Int) ≤ (x : Int) := by omega
     have l2 : (x : Int) ≤ 127 := by omega
     obtain ⟨_, rfl, rfl, rfl⟩ := HI.out.psh l.1 l.2
     clear l
     go_wp2_with fail
     go_ret
     exact ⟨rfl, QQ.out⟩
    ·have l1 : (128 : Int) ≤ (x : Int) := by omega
     have l2 : (x : Int) ≤ 143 := by omega
     obtain ⟨_, e1, e2⟩ := HI.out.dup l.1 l.2
     have d5 : (pu : Int) = (po : Int) + 1 := by omega
     have d6 : (po : Int) = (x : Int) - 127 := by omega
     clear e1 e2
     clear l
     go_wp2_with fail
     go_ret
     exact ⟨rfl, QQ.out⟩
    ·have l1 : (144 : Int) ≤ (x : Int) := by omega
     have l2 : (x : Int) ≤ 159 := by omega
     obtain ⟨_, e1, e2⟩ := HI.out.swp l.1 l.2
     have d5 : (pu : Int) = (po : Int) := by omega
     have d6 : (po : Int) = (x : Int) - 142 := by omega
     clear e1 e2
     clear l
     go_wp2_with fail
     go_ret
     exact ⟨rfl, QQ.out⟩
   ·have hss : ¬ s = s' := fun e => hxy (title_inj HXY.out.1 HXY.out.2 (by rw [← (HI.out.nam rfl).1, ← (HI'.out.nam rfl).1, e]))
    have hxb : ((x : Int) == (y : Int)) = false := by simp; omega
    have hst : (s.toList == s'.toList) = false := by
     rw [ByteArray.toList_eq, ByteArray.toList_eq]
     simp only [beq_eq_false_iff_ne, ne_eq]
     exact fun k => hss (by apply ByteArray.ext; apply Array.ext'; exact k)
    have HL' := HL.out
    rcases HL' with (l | l) | l | l | l
    ·have l1 : (x : Int) < 96 := by omega
     have d5 : (pu : Int) ≤ 1 := by have := HI.out.els (.inl l); omega
     have d6 : (po : Int) ≤ 7 := by have := HI.out.els (.inl l); omega
     clear l
     go_wp2_with fail
     go_ret
     exact ⟨rfl, QQ.out⟩
    ·have l1 : (159 : Int) < (x : Int) := by omega
     have d5 : (pu : Int) ≤ 1 := by have := HI.out.els (.inr l); omega
     have d6 : (po : Int) ≤ 7 := by have := HI.out.els (.inr l); omega
     clear l
     go_wp2_with fail
     go_ret
     exact ⟨rfl, QQ.out⟩
    ·have l1 : (96 : Int) ≤ (x : Int) := by omega
     have l2 : (x : Int) ≤ 127 := by omega
     obtain ⟨_, rfl, rfl, rfl⟩ := HI.out.psh l.1 l.2
     clear l
     go_wp2_with fail
     go_ret
     exact ⟨rfl, QQ.out⟩
    ·have l1 : (128 : Int) ≤ (x : Int) := by omega
     have l2 : (x : Int) ≤ 143 := by omega
     obtain ⟨_, e1, e2⟩ := HI.out.dup l.1 l.2
     have d5 : (pu : Int) = (po : Int) + 1 := by omega
     have d6 : (po : Int) = (x : Int) - 127 := by omega
     clear e1 e2
     clear l
     go_wp2_with fail
     go_ret
     exact ⟨rfl, QQ.out⟩
    ·have l1 : (144 : Int) ≤ (x : Int) := by omega
     have l2 : (x : Int) ≤ 159 := by omega
     obtain ⟨_, e1, e2⟩ := HI.out.swp l.1 l.2
     have d5 : (pu : Int) = (po : Int) := by omega
     have d6 : (po : Int) = (x : Int) - 142 := by omega
     clear e1 e2
     clear l
     go_wp2_with fail
     go_ret
     exact ⟨rfl, QQ.out⟩
end
section
open Go Go.RowKit Go.Maps
attribute [local go_sem] Oper.semAt_some Grows wide_fn eq4
def wantL (c : List UInt8) (k j : Nat) : List UInt8 := behindL c k j ++ List.replicate (j - (behindL c k j).length) 0
theorem wantL_zero (c : List UInt8) (k : Nat) : wantL c k 0 = [] := by simp [wantL, behindL]
theorem wantL_length (c : List UInt8) (k j : Nat) : (wantL c k j).length = j := by
 unfold wantL behindL
 simp
 omega
theorem wantL_in (c : List UInt8) (k j : Nat) (h : k + (j + 1) < c.length) : wantL c k (j + 1) = wantL c k j ++ (c.drop (k + (j + 1))).take 1 := by
 unfold wantL behindL
 have e1 : (List.take j (List.drop (k + 1) c)).length = j := by simp; omega
 have e2 : (List.take (j + 1) (List.drop (k + 1) c)).length = j + 1 := by simp; omega
 rw [e1, e2, Nat.sub_self, Nat.sub_self, List.replicate_zero, List.append_nil, List.append_nil, List.take_add, List.drop_drop]
 rw [show k + 1 + j = k + (j + 1) by omega]
theorem wantL_out (c : List UInt8) (k j : Nat) (h : c.length ≤ k + (j + 1)) : wantL c k (j + 1) = wantL c k j ++ [0] := by
 unfold wantL behindL
 have e1 : List.take (j + 1) (List.drop (k + 1) c) = List.drop (k + 1) c := List.take_of_length_le (by simp; omega)
 have e2 : List.take j (List.drop (k + 1) c) = List.drop (k + 1) c := List.take_of_length_le (by simp; omega)
 rw [e1, e2, List.append_assoc, show j + 1 - (List.drop (k + 1) c).length = (j - (List.drop (k + 1) c).length) + 1 by simp; omega, List.replicate_succ']
theorem push_want (c : List UInt8) (k m : Nat) (h : k < c.length) (h1 : 1 ≤ m) (h2 : m ≤ 32) : pushW c (k : Int) (m : Int) = fromB (wantL c k m) := by
 unfold pushW wantL
 rw [if_pos ⟨by omega, by omega, by omega, by omega⟩]
 simp
theorem push_over (c : List UInt8) (m : Int) : pushW c (c.length : Int) m = 0 := by unfold pushW; rw [if_neg (by omega)]
theorem push_none (c : List UInt8) (k : Int) : pushW c k 0 = 0 := by unfold pushW; rw [if_neg (by omega)]
theorem wv_zeroO : wv 0 = .agg #[.int .u64 0, .int .u64 0, .int .u64 0, .int .u64 0] := wv_of ⟨by decide, by decide, by decide, by decide⟩
theorem run_cutS (w : World) (x : ByteArray) (X P Q : Nat) (hX : (x.size : Int) = (X : Int)) (h : P ≤ Q) (h2 : Q ≤ X) : (Instr.slice 9 (.string x) (some (.int .i64 (P : Int))) (some (.int .i64 (Q : Int))) none).run Tryd.prog w = .ok (.string (x.extract P Q)) w := by
 have hu := Tryd.underlying9
 have h3 : Q ≤ x.size := by omega
 have h4 : (P : Int) ≤ (Q : Int) := by omega
 simp [Instr.slice, Instr.sliceBounds, Instr.sliceBound, asIntOf, h, h3, go_sem]
theorem cut_x (s : ByteArray) (a b : Nat) : s.extract a b = ⟨((s.data.toList.drop a).take (b - a)).toArray⟩ := by
 apply ByteArray.ext
 apply Array.ext'
 simp [List.extract_eq_take_drop]
theorem pushes_none (W : World) (s : ByteArray) (hs : (s.size : Int) ≤ 140737488355328) (pc n : Int) (x : ByteArray) (hx : s.extract 0 (min (s.size : Int) 60).toNat = x) (xz : x.size = 0) : Calls Tryd.prog 8 #[.string s, .int .i64 pc, .int .i64 n] W fun e w' => e = .returned (.bool true) ∧ Below W.heap.size W w' := by
 have e0 : (0 : Int) ≤ (s.size : Int) := by omega
 have xz' : (x.size : Int) = 0 := by omega
 have xe : x = ⟨#[]⟩ := by
  apply ByteArray.ext
  apply Array.ext'
  exact List.eq_nil_of_length_eq_zero (by rw [Array.length_toList]; exact xz)
 go_enter Tryd.func8, Tryd.ntmps8
 go_wp2_with fail
 refine (awake_any _).mono ?_
 rintro _ w1 ⟨rfl, q1⟩
 go_wp2_with fail
 refine (push_any _ ⟨#[]⟩ (by decide) 0 1).mono ?_
 rintro _ w2 ⟨rfl, q2⟩
 rw [show pushW (⟨#[]⟩ : ByteArray).data.toList 0 1 = 0 from rfl, wv_zeroO]
 go_wp2_with fail
 go_ret
 exact ⟨rfl, q1.trans (q2.mono q1.size)⟩
theorem pushes_some (W : World) (s : ByteArray) (hs : (s.size : Int) ≤ 140737488355328) (pc n : Int) (x : ByteArray) (hx : s.extract 0 (min (s.size : Int) 60).toNat = x) (X K d M : Nat) (hX : (x.size : Int) = (X : Int))
  (P1' : Ret Tryd.prog 11 #[.int .i64 pc, .int .i64 (X : Int)] (.int .i64 (K : Int))) (P2' : Ret Tryd.prog 11 #[.int .i64 n, .int .i64 32] (.int .i64 (d : Int)))
  (hMd : (1 : Int) + (d : Int) = (M : Int)) (x1 : (X : Int) ≤ 60) (K1 : (K : Int) < (X : Int)) (d1 : (d : Int) < 32) : Calls Tryd.prog 8 #[.string s, .int .i64 pc, .int .i64 n] W fun e w' => e = .returned (.bool true) ∧ Below W.heap.size W w' := by
 have e0 : (0 : Int) ≤ (s.size : Int) := by omega
 have x0 : (0 : Int) ≤ (X : Int) := by omega
 have K0 : (0 : Int) ≤ (K : Int) := by omega
 have d0 : (0 : Int) ≤ (d : Int) := by omega
 have xz : ¬ (X : Int) = 0 := by omega
 have HR := hid (show K < X ∧ 1 ≤ M ∧ M ≤ 32 by omega)
 have P1 := hid P1'
 have P2 := hid P2'
 clear P1' P2'
 go_enter Tryd.func8, Tryd.ntmps8
 go_wp2_with fail
 refine (awake_any _).mono ?_
 rintro _ w1 ⟨rfl, q⟩
 have QQ := hid q
 clear q
 go_wp2_with fail
 refine (P1.out _).mono ?_
 rintro _ w2 ⟨rfl, q2⟩
 replace QQ := hid (QQ.out.trans (q2.mono QQ.out.size))
 clear q2
 go_wp2_with fail
 refine (P2.out _).mono ?_
 rintro _ w3 ⟨rfl, q3⟩
 replace QQ := hid (QQ.out.trans (q3.mono QQ.out.size))
 clear q3
 obtain ⟨c, hc⟩ : ∃ c, x.data.toList = c := ⟨_, rfl⟩
 have hcl : c.length = X := by rw [← hc, Array.length_toList]; show x.size = X; omega
 have HC := hid (And.intro hc hcl)
 clear hc hcl
 go_wp2_with fail
 go_loopw [11, 12] (fun s i wr => ∃ J : Nat, s = .string ⟨(wantL c K (J - 1)).toArray⟩ ∧ i = .int .i64 (J : Int) ∧ 1 ≤ J ∧ J ≤ M + 1 ∧ Below w3.heap.size w3 wr) (fun _ i _ => M + 1 - (intOf i).toNat)
 case atStart => exact ⟨1, by rw [Nat.sub_self, wantL_zero], rfl, by omega, by omega, Below.refl _ _⟩
 case round =>
  obtain ⟨J, rfl, rfl, hJ1, hJ2, hq⟩ := hrel
  have HQ := hid hq
  clear hq
  have J0 : (0 : Int) ≤ (J : Int) := by omega
  have M1 : (M : Int) ≤ 32 := by have := HR.out; omega
  by_cases hlt : J ≤ M
  ·have hltI : (J : Int) ≤ (M : Int) := by omega
   have HJ := hid (And.intro hJ1 hlt)
   obtain ⟨P, hP⟩ : ∃ P, K + J = P := ⟨_, rfl⟩
   have hPI : (K : Int) + (J : Int) = (P : Int) := by omega
   have P0 : (0 : Int) ≤ (P : Int) := by omega
   have P9 : (P : Int) ≤ 100 := by omega
   have HP := hid hP
   obtain ⟨tt, htt⟩ : ∃ tt, (⟨(wantL c K (J - 1)).toArray⟩ : ByteArray) = tt := ⟨_, rfl⟩
   have htn : tt.size = J - 1 := by rw [← htt]; show (wantL c K (J - 1)).toArray.size = J - 1; rw [List.size_toArray, wantL_length]
   have hts : tt.size + 1 ≤ 100 := by omega
   have htI : (tt.size : Int) + 1 ≤ 100 := by omega
   rw [htt]
   have HT := hid htt
   clear hJ1 hJ2 hlt hP htt htn
   by_cases hin : P < X
   ·have hinI : (P : Int) < (X : Int) := by omega
    obtain ⟨Q, hQ⟩ : ∃ Q : Nat, P + 1 = Q := ⟨_, rfl⟩
    have hQI : (P : Int) + 1 = (Q : Int) := by omega
    have P2 : (Q : Int) ≤ (X : Int) := by omega
    have hcut := run_cutS wr x X P Q hX (by omega) (by omega)
    obtain ⟨uu, huu⟩ : ∃ uu, x.extract P Q = uu := ⟨_, rfl⟩
    have hus : uu.size = 1 := by rw [← huu, ByteArray.size_extract]; omega
    rw [huu] at hcut
    have HU := hid huu
    clear huu
    have HQQ := hid hQ
    clear hQ
    have HI := hid hin
    clear hin
    go_wp2_with fail
    go_roundw
    case rel => exact ⟨J + 1, (by
     congr 1
     rw [← HT.out, ← HU.out, cut_x, HC.out.1, ← HQQ.out, ← HP.out, Nat.add_sub_cancel_left, Nat.add_sub_cancel, show J = (J - 1) + 1 by have := HJ.out; omega, Nat.add_sub_cancel, wantL_in _ _ _ (by have := HC.out.2; have := HI.out; have := HP.out; have := HJ.out; omega)]
     apply ByteArray.ext
     apply Array.ext'
     simp), by simp, by omega, by have := HJ.out; omega, HQ.out⟩
    case measure => have := HJ.out; simp [intOf]; omega
   ·have hinI : ¬ (P : Int) < (X : Int) := by omega
    have HI := hid hin
    clear hin
    go_wp2_with fail
    go_roundw
    case rel => exact ⟨J + 1, (by
     congr 1
     rw [← HT.out, show J = (J - 1) + 1 by have := HJ.out; omega, Nat.add_sub_cancel, Nat.add_sub_cancel, wantL_out _ _ _ (by have := HC.out.2; have := HI.out; have := HP.out; have := HJ.out; omega)]
     apply ByteArray.ext
     apply Array.ext'
     simp), by simp, by omega, by have := HJ.out; omega, HQ.out⟩
    case measure => have := HJ.out; simp [intOf]; omega
  ·have hge : ¬ (J : Int) ≤ (M : Int) := by omega
   have hJM : J - 1 = M := by omega
   rw [hJM]
   clear hJ1 hJ2 hlt
   go_wp2_with fail
   refine (push_any _ x (by omega) K M).mono ?_
   rintro _ w4 ⟨rfl, q4⟩
   have HQ4 := hid (HQ.out.trans (q4.mono HQ.out.size))
   clear q4
   rw [HC.out.1, push_want c K M (by rw [HC.out.2]; exact HR.out.1) HR.out.2.1 HR.out.2.2]
   obtain ⟨v, hv⟩ : ∃ v, fromB (wantL c K M) = v := ⟨_, rfl⟩
   have HV := hid (refFromBytes_ret ⟨(wantL c K M).toArray⟩ (by show (wantL c K M).toArray.size ≤ _; rw [List.size_toArray, wantL_length]; have := HR.out; omega))
   rw [show (⟨(wantL c K M).toArray⟩ : ByteArray).data.toList = wantL c K M from rfl, hv] at HV
   rw [hv]
   have ev : wv v = .agg #[.int .u64 (lim v 0), .int .u64 (lim v 1), .int .u64 (lim v 2), .int .u64 (lim v 3)] := wv_of ⟨rfl, rfl, rfl, rfl⟩
   rw [ev]
   rw [ev] at HV
   clear ev hv
   go_wp2_with fail
   refine (HV.out _).mono ?_
   rintro _ w5 ⟨rfl, q5⟩
   have HQ5 := hid (HQ4.out.trans (q5.mono HQ4.out.size))
   clear q5
   go_wp2_with fail
   refine (push_any _ x (by omega) X M).mono ?_
   rintro _ w6 ⟨rfl, q6⟩
   have HQ6 := hid (HQ5.out.trans (q6.mono HQ5.out.size))
   clear q6
   rw [HC.out.1, show pushW c (X : Int) (M : Int) = 0 by rw [← HC.out.2]; exact push_over c M, wv_zeroO]
   go_wp2_with fail
   refine (push_any _ x (by omega) K 0).mono ?_
   rintro _ w7 ⟨rfl, q7⟩
   have HQ7 := hid (HQ6.out.trans (q7.mono HQ6.out.size))
   clear q7
   rw [HC.out.1, show pushW c (K : Int) 0 = 0 from push_none c K, wv_zeroO]
   go_wp2_with fail
   go_ret
   exact ⟨rfl, QQ.out.trans (HQ7.out.mono QQ.out.size)⟩
theorem opcodePushes_any (W : World) (s : ByteArray) (hs : s.size ≤ 140737488355328) (pc : Int) (h1 : I64 pc) (n : Int) (h2 : I64 n) : Calls Tryd.prog 8 #[.string s, .int .i64 pc, .int .i64 n] W fun e w' => e = .returned (.bool true) ∧ Below W.heap.size W w' := by
 obtain ⟨x, hx⟩ : ∃ x, s.extract 0 (min (s.size : Int) 60).toNat = x := ⟨_, rfl⟩
 have hX60 : x.size ≤ 60 := by rw [← hx, ByteArray.size_extract]; omega
 have hs' : (s.size : Int) ≤ 140737488355328 := by omega
 by_cases hz : x.size = 0
 ·exact pushes_none W s hs' pc n x hx hz
 ·have P1 := pick_ret pc h1 (x.size : Int) (by omega) (by omega)
  have P2 := pick_ret n h2 32 (by decide) (by decide)
  have r1 := pickN_range pc (x.size : Int) (by omega)
  have r2 := pickN_range n 32 (by decide)
  rw [show pickN pc (x.size : Int) = ((pickN pc (x.size : Int)).toNat : Int) by omega] at P1
  rw [show pickN n 32 = ((pickN n 32).toNat : Int) by omega] at P2
  exact pushes_some W s hs' pc n x hx x.size (pickN pc (x.size : Int)).toNat (pickN n 32).toNat (1 + (pickN n 32).toNat) rfl P1 P2 (by omega) (by omega) (by omega) (by omega)
end
section
open Go Go.RowKit
theorem title_plain : ∀ op, op < 256 → (titleL op).all (fun x => x != 10 && x != 32) = true := by decide +kernel
theorem dig_plain : ∀ n, n < 16 → digU n ≠ 10 := by decide +kernel
theorem dig_back : ∀ n, n < 16 → digN (digU n) = some n := by decide +kernel
def bodyL (c : List UInt8) (p : Nat) : List UInt8 :=
 titleL (byteAt c p) ++ (if 0 < pushN (byteAt c p) then 32 :: hexO (behindL c p (pushN (byteAt c p))) else [])
theorem line_body (c : List UInt8) (p : Nat) : lineL c p = bodyL c p ++ [10] := rfl
theorem byte_div (b : UInt8) : b.toNat / 16 < 16 := by have := b.toNat_lt; omega
theorem hexO_plain (bs : List UInt8) : ∀ x ∈ hexO bs, x ≠ 10 := by
 intro x hx
 unfold hexO at hx
 simp only [List.mem_cons, List.mem_flatMap] at hx
 rcases hx with rfl | rfl | ⟨b, _, hx⟩
 ·decide
 ·decide
 ·unfold twoL at hx
  simp only [List.mem_cons, List.not_mem_nil, or_false] at hx
  rcases hx with rfl | rfl
  ·exact dig_plain _ (byte_div b)
  ·exact dig_plain _ (Nat.mod_lt _ (by decide))
theorem titleL_plain (op : Nat) (h : op < 256) : ∀ x ∈ titleL op, x ≠ 10 ∧ x ≠ 32 := fun x hx => by
 have := List.all_eq_true.1 (title_plain op h) x hx
 simpa using this
theorem bodyL_plain (c : List UInt8) (p : Nat) : ∀ x ∈ bodyL c p, x ≠ 10 := by
 intro x hx
 unfold bodyL at hx
 rcases List.mem_append.1 hx with h | h
 ·exact (titleL_plain _ (byteAt_lt c p) x h).1
 ·split at h
  ·rcases List.mem_cons.1 h with rfl | h
   ·decide
   ·exact hexO_plain _ x h
  ·cases h
theorem line1_body : ∀ (b r : List UInt8), (∀ x ∈ b, x ≠ 10) → line1 (b ++ 10 :: r) = b ++ [10] ∧ lines2 (b ++ 10 :: r) = r
 | [], r, _ => by simp [line1, lines2]
 | a :: b, r, h => by
  have ha : a ≠ 10 := h a (by simp)
  obtain ⟨h1, h2⟩ := line1_body b r (fun x hx => h x (by simp [hx]))
  simp [line1, lines2, ha, h1, h2]
theorem chompL_body (b : List UInt8) : chompL (b ++ [10]) = b := by unfold chompL; simp
theorem linesF_more : ∀ (f g : Nat) (s : List UInt8), s.length ≤ f → s.length ≤ g → linesF f s = linesF g s
 | 0, g, s, h, _ => by
  have : s = [] := List.eq_nil_of_length_eq_zero (by omega)
  subst this
  cases g <;> simp [linesF]
 | f + 1, 0, s, _, h => by
  have : s = [] := List.eq_nil_of_length_eq_zero (by omega)
  subst this
  simp [linesF]
 | f + 1, g + 1, s, h1, h2 => by
  unfold linesF
  by_cases e : s = []
  ·rw [if_pos e, if_pos e]
  ·rw [if_neg e, if_neg e, linesF_more f g (lines2 s) (by have := lines2_lt e; omega) (by have := lines2_lt e; omega)]
theorem linesL_body (b r : List UInt8) (h : ∀ x ∈ b, x ≠ 10) : linesL (b ++ 10 :: r) = (b ++ [10]) :: linesL r := by
 obtain ⟨h1, h2⟩ := line1_body b r h
 unfold linesL
 rw [show (b ++ 10 :: r).length = (b.length + r.length) + 1 by simp; omega]
 rw [linesF, if_neg (by simp), h1, h2]
 rw [linesF_more (b.length + r.length) r.length r (by omega) (by omega)]
theorem lines_text (c r : List UInt8) : ∀ ps : List Nat, linesL (ps.flatMap (lineL c) ++ r) = ps.map (lineL c) ++ linesL r
 | [] => rfl
 | p :: ps => by
  rw [List.flatMap_cons, List.map_cons, line_body, List.append_assoc, List.append_assoc, List.singleton_append, linesL_body _ _ (bodyL_plain c p), lines_text c r ps]
  rfl
theorem cut_title : ∀ (t r : List UInt8), (∀ x ∈ t, x ≠ 32) → cutF (t ++ 32 :: r) = t ∧ cutM (t ++ 32 :: r) = true ∧ cutR (t ++ 32 :: r) = r
 | [], r, _ => by simp [cutF, cutM, cutR]
 | a :: t, r, h => by
  have ha : a ≠ 32 := h a (by simp)
  obtain ⟨h1, h2, h3⟩ := cut_title t r (fun x hx => h x (by simp [hx]))
  simp [cutF, cutM, cutR, ha, h1, h2, h3]
theorem cut_whole : ∀ (t : List UInt8), (∀ x ∈ t, x ≠ 32) → cutF t = t ∧ cutM t = false
 | [], _ => by simp [cutF, cutM]
 | a :: t, h => by
  have ha : a ≠ 32 := h a (by simp)
  obtain ⟨h1, h2⟩ := cut_whole t (fun x hx => h x (by simp [hx]))
  simp [cutF, cutM, ha, h1, h2]
theorem pairs_back : ∀ bs : List UInt8, pairsL (bs.flatMap twoL) = some bs
 | [] => rfl
 | b :: bs => by
  have h1 := dig_back _ (byte_div b)
  have h2 := dig_back (b.toNat % 16) (Nat.mod_lt _ (by decide))
  have h3 := pairs_back bs
  show pairsL (digU (b.toNat / 16) :: digU (b.toNat % 16) :: bs.flatMap twoL) = _
  rw [pairsL, h1, h2, h3]
  show some (UInt8.ofNat (16 * (b.toNat / 16) + b.toNat % 16) :: bs) = _
  rw [Nat.div_add_mod, UInt8.ofNat_toNat]
theorem flat_two (bs : List UInt8) : (bs.flatMap twoL).length = 2 * bs.length := by
 induction bs with
 | nil => rfl
 | cons b bs ih => rw [List.flatMap_cons, List.length_append, ih, List.length_cons]; show 2 + _ = _; omega
theorem unhex_back (bs : List UInt8) (n : Nat) (h : bs.length ≤ n) : unhexL (hexO bs) n = some bs := by
 unfold unhexL hexO
 rw [if_pos ⟨rfl, by show (bs.flatMap twoL).length % 2 = 0; rw [flat_two]; omega, by show (bs.flatMap twoL).length ≤ 2 * n; rw [flat_two]; omega⟩]
 exact pairs_back bs
theorem behind_len (c : List UInt8) (p n : Nat) : (behindL c p n).length = min n (c.length - (p + 1)) := by unfold behindL; simp
theorem read_body (c : List UInt8) (p : Nat) (last : Bool) (hw : nextP c p ≤ c.length ∨ last = true) :
  readL (bodyL c p) last = .inr (UInt8.ofNat (byteAt c p) :: behindL c p (pushN (byteAt c p))) := by
 have hb := byteAt_lt c p
 have ht := titleL_plain _ hb
 unfold readL bodyL
 by_cases h0 : pushN (byteAt c p) = 0
 ·rw [if_neg (by omega), List.append_nil]
  obtain ⟨h1, h2⟩ := cut_whole _ (fun x hx => (ht x hx).2)
  rw [h1, h2, opOf_title _ hb]
  simp [h0, behindL]
 ·rw [if_pos (by omega)]
  obtain ⟨h1, _, h3⟩ := cut_title (titleL (byteAt c p)) (hexO (behindL c p (pushN (byteAt c p)))) (fun x hx => (ht x hx).2)
  rw [h1, h3, opOf_title _ hb]
  have hl := behind_len c p (pushN (byteAt c p))
  simp only []
  rw [if_neg h0, unhex_back _ _ (by omega)]
  simp only []
  rw [if_neg]
  rintro ⟨k1, k2⟩
  rcases hw with hw | hw
  ·unfold nextP at hw; omega
  ·rw [hw] at k2; cases k2
theorem byte_cons (c : List UInt8) (p : Nat) (h : p < c.length) : UInt8.ofNat (byteAt c p) :: behindL c p (pushN (byteAt c p)) ++ c.drop (nextP c p) = c.drop p := by
 unfold behindL nextP
 rw [List.drop_eq_getElem_cons h, List.cons_append]
 congr 1
 ·unfold byteAt
  rw [UInt8.ofNat_toNat, List.getD_eq_getElem?_getD, List.getElem?_eq_getElem h]; rfl
 ·have e : List.drop (p + 1 + pushN (byteAt c p)) c = List.drop (pushN (byteAt c p)) (List.drop (p + 1) c) := by rw [List.drop_drop]
  rw [e, List.take_append_drop]
def WholeP (c : List UInt8) (f p : Nat) : Prop := ∀ q ∈ placesF c f p, nextP c q ≤ c.length
theorem parse_lines (c : List UInt8) (R : List (List UInt8)) : ∀ (f p n : Nat) (acc : List UInt8), c.length - p ≤ f → (R = [] ∨ WholeP c f p) →
  parseF ((placesF c f p).map (lineL c) ++ R) n acc = parseF R (n + (placesF c f p).length) (acc ++ c.drop p)
 | 0, p, n, acc, h, _ => by
  have : c.drop p = [] := List.drop_eq_nil_of_le (by omega)
  simp [placesF, this]
 | f + 1, p, n, acc, h, hw => by
  unfold placesF
  by_cases hp : p < c.length
  ·rw [if_pos hp, List.map_cons, List.cons_append, parseF, line_body, chompL_body]
   have hg := nextP_gt c p
   have hr : readL (bodyL c p) (((placesF c f (nextP c p)).map (lineL c) ++ R) == []) = .inr (UInt8.ofNat (byteAt c p) :: behindL c p (pushN (byteAt c p))) := by
    refine read_body c p _ ?_
    by_cases hn : nextP c p ≤ c.length
    ·exact .inl hn
    ·refine .inr ?_
     have e1 : placesF c f (nextP c p) = [] := by cases f with
      | zero => rfl
      | succ f => unfold placesF; rw [if_neg (by omega)]
     have e2 : R = [] := by
      rcases hw with hw | hw
      ·exact hw
      ·exact absurd (hw p (by unfold placesF; rw [if_pos hp]; simp)) hn
     rw [e1, e2]; rfl
   rw [hr]
   show parseF _ (n + 1) (acc ++ (UInt8.ofNat (byteAt c p) :: behindL c p (pushN (byteAt c p)))) = _
   rw [parse_lines c R f (nextP c p) (n + 1) _ (by omega) (hw.imp id fun k q hq => k q (by unfold placesF; rw [if_pos hp]; exact List.mem_cons_of_mem _ hq)), List.append_assoc, byte_cons c p hp, List.length_cons]
   congr 1
   omega
  ·rw [if_neg hp]
   have : c.drop p = [] := List.drop_eq_nil_of_le (by omega)
   simp [this]
theorem parse_text (c : List UInt8) : parseL (textL c) = .inr c := by
 unfold parseL textL
 have h := lines_text c [] (placesL c)
 rw [List.append_nil] at h
 rw [h]
 have := parse_lines c [] c.length 0 0 [] (by omega) (.inl rfl)
 rw [show linesL [] = [] from rfl]
 unfold placesL
 rw [this]
 rfl
theorem parsed_text (c : List UInt8) : parsedV (textL c) = .tuple #[.string ⟨c.toArray⟩, .int .i64 0, .int .i64 0] := by
 unfold parsedV
 rw [parse_text]
end
section
open Go Go.RowKit Go.Maps
attribute [local go_sem] Oper.semAt_some Grows wide_fn
theorem refBehind_ret (op : Nat) (ho : op < 256) : Ret Tryd.prog 29 #[.int .u8 (op : Int)] (.int .i64 (pushN op : Int)) := by
 refine Ret.of_same fun w => ?_
 have h0 : (0 : Int) ≤ (op : Int) := by omega
 have h1 : (op : Int) < 256 := by omega
 by_cases a : 96 ≤ op ∧ op ≤ 127
 ·have e : (pushN op : Int) = (op : Int) - 95 := by unfold pushN; rw [if_pos a]; omega
  have a1 : (96 : Int) ≤ (op : Int) := by omega
  have a2 : (op : Int) ≤ 127 := by omega
  rw [e]
  clear e a
  go_enter Tryd.func29, Tryd.ntmps29
  go_wp2
  go_ret
  exact ⟨rfl, rfl⟩
 ·have e : (pushN op : Int) = 0 := by unfold pushN; rw [if_neg a]; rfl
  rw [e]
  by_cases b : op < 96
  ·have a1 : (op : Int) < 96 := by omega
   clear e a b
   go_enter Tryd.func29, Tryd.ntmps29
   go_wp2
   go_ret
   exact ⟨rfl, rfl⟩
  ·have a1 : (127 : Int) < (op : Int) := by omega
   clear e a b
   go_enter Tryd.func29, Tryd.ntmps29
   go_wp2
   go_ret
   exact ⟨rfl, rfl⟩
inductive CodeP : List UInt8 → Prop
 | nil : CodeP []
 | snoc {l : List UInt8} (h : CodeP l) (op : UInt8) (bs : List UInt8) (hb : bs.length = pushN op.toNat) : CodeP (l ++ op :: bs)
end
section
open Go Go.RowKit Go.Maps Go.Shelf
attribute [local go_sem] Oper.semAt_some Grows wide_fn
theorem pick_u8 (c : Int) (m : Int) (h : 0 < m) : ∃ d : Nat, pickN c m = (d : Int) ∧ (d : Int) < m := by
 have h := pickN_range c m h
 exact ⟨(pickN c m).toNat, by omega, by omega⟩
theorem quo3 (z : Int) (h : I64 z) (k : Int) (h0 : 0 ≤ k) (h1 : k ≤ 40) : I64 (z.tdiv 3 + k) ∧ -9223372036854775808 ≤ z.tdiv 3 ∧ z.tdiv 3 < 9223372036854775808 ∧ -9223372036854775808 ≤ z.tdiv 3 + k ∧ z.tdiv 3 + k < 9223372036854775808 := by
 unfold I64 at *
 have : z.tdiv 3 = if 0 ≤ z then z / 3 else -((-z) / 3) := by
  split
  ·exact Int.tdiv_eq_ediv_of_nonneg (by omega)
  ·rw [show z = -(-z) by omega, Int.neg_tdiv, Int.tdiv_eq_ediv_of_nonneg (by omega)]; simp
 rw [this]
 split <;> omega
def CdSt (W : World) (n : Nat) (k : Nat) (ov : Value) (X : World) : Prop :=
 ∃ l, k ≤ n ∧ k ≤ 40 ∧ CodeP l ∧ l.length ≤ 33 * k ∧ X.ownsRow W.heap.size tB 1 ov l.length (Lib.byteCells l) ∧ Below W.heap.size W X
theorem code_any (W : World) (v : Value) (zs : List (Int × Int)) (hr : RawAt W v zs) : Calls Tryd.prog 13 #[v] W fun e w' => (∃ l, e = .returned (.string ⟨l.toArray⟩) ∧ CodeP l ∧ l.length ≤ 1320) ∧ Below W.heap.size W w' := by
 have HR := hid hr
 obtain ⟨a, cap, rfl, hnc, hcm, _⟩ := hr
 obtain ⟨n, hn⟩ : ∃ n, zs.length = n := ⟨_, rfl⟩
 rw [hn] at HR hnc ⊢
 have HN := hid hn
 have hlc := hid (Nat.le_trans hnc hcm)
 have n9 : (n : Int) ≤ 9223372036854775807 := by omega
 obtain ⟨i0, hi, hz0, hz1, hz2⟩ := info_parts infoB8
 have HAP := hid (fun (w : World) (v : Value) (n : Nat) (xs : List Value) (hw : W.heap.size ≤ w.heap.size) (h : w.ownsRow W.heap.size tB 1 v n xs) (hn : n ≤ 1000000) (z : Int) => run_append_own (P := Tryd.prog) (w.alloc (.cells #[.int .u8 z] tB)) W.heap.size 55 55 tB i0 (.int .u8 0) 1 1 Tryd.underlying55 hi hz0 hz1 hz2 rfl (by decide) v n xs (h.alloc _) ⟨w.heap.size, 0, none⟩ 1 1 [.int .u8 z] rfl (cell_one_new _ _ _) (by simp [Value.oneCell']) (by unfold maxLen; omega) (by omega) (by simp; omega))
 clear hi hz0 hz1 hz2 hnc hcm hn
 go_enter Tryd.func13, Tryd.ntmps13
 go_wp2_with fail
 go_loopw [3, 4] (fun ov i wr => ∃ k : Nat, i = .int .i64 (k : Int) ∧ CdSt W n k ov wr) (fun _ i _ => n - (intOf i).toNat)
 case atStart => exact ⟨0, rfl, [], by omega, by omega, .nil, by simp, World.ownsRow_nil _ _ _ _, Below.refl _ _⟩
 case round =>
  obtain ⟨k, rfl, l, hkn, hk40, hcp, hll, hrow, hq⟩ := hrel
  obtain ⟨ov, hov⟩ : ∃ ov, ov = u3 := ⟨_, rfl⟩
  subst hov
  have HQ := hid hq
  have HROW := hid hrow
  have HK := hid (And.intro hkn (And.intro hk40 hll))
  have HCP := hid hcp
  have k0 : (0 : Int) ≤ (k : Int) := by omega
  have k40 : (k : Int) ≤ 40 := by omega
  clear hq hrow hcp
  by_cases hk : k < n ∧ k < 40
  ·have hknI : (k : Int) < (n : Int) := by omega
   have hk40I : (k : Int) < 40 := by omega
   obtain ⟨p, hp⟩ : ∃ p, zs[k]? = some p := ⟨_, List.getElem?_eq_getElem (by have := HN.out; omega)⟩
   obtain ⟨a', cap', e', _, _, hall⟩ := HR.out
   injection e' with e1 e2 e3
   subst e1 e3
   obtain ⟨i1, i2, b, rfl, _⟩ := hall k p hp
   have HC := hid (fun (X : World) (hX : Below W.heap.size W X) => (show X.cell? (b.add (k * 2)) = some (.int .i64 p.1) ∧ X.cell? ⟨(b.add (k * 2)).block, (b.add (k * 2)).off + 1, none⟩ = some (.int .i64 p.2) from by
    obtain ⟨_, _, e', _, _, hall'⟩ := HR.out.later hX
    injection e' with e1 _ _
    subst e1
    obtain ⟨_, _, b', e'', h1, h2⟩ := hall' k p hp
    injection e'' with e''
    subst e''
    exact ⟨h1, h2⟩))
   have HKK := hid hk
   clear hk hkn hk40 hll e2 hall hp
   generalize p.1 = p1 at *
   generalize p.2 = p2 at *
   have HI2 := hid i2
   have P256 := hid (pick_ret p1 i1 256 (by decide) (by decide))
   have P5 := hid (pick_ret p1 i1 5 (by decide) (by decide))
   have P4 := hid (pick_ret p2 i2 4 (by decide) (by decide))
   obtain ⟨x, hx, hx1⟩ := pick_u8 p1 256 (by decide)
   obtain ⟨y, hy, hy1⟩ := pick_u8 p1 5 (by decide)
   obtain ⟨z, hz, hz1⟩ := pick_u8 p2 4 (by decide)
   rw [hx] at P256
   rw [hy] at P5
   rw [hz] at P4
   have x0 : (0 : Int) ≤ (x : Int) := by omega
   have y0 : (0 : Int) ≤ (y : Int) := by omega
   have z0 : (0 : Int) ≤ (z : Int) := by omega
   clear hx hy hz i1 i2
   have c0 := (HC.out wr HQ.out).1
   go_wp2_with fail
   refine (P256.out _).mono ?_
   rintro _ w1 ⟨rfl, q1⟩
   have HQ1 := hid (HQ.out.trans (q1.mono HQ.out.size))
   have HROW1 := hid (row_later HROW.out q1)
   clear q1 c0
   have c0 := (HC.out w1 HQ1.out).1
   go_wp2_with fail
   refine (P5.out _).mono ?_
   rintro _ w2 ⟨rfl, q2⟩
   have HQ2 := hid (HQ1.out.trans (q2.mono HQ1.out.size))
   have HROW2 := hid (row_later HROW1.out q2)
   clear q2 c0
   have c0 := (HC.out w2 HQ2.out).1
   have c1 := (HC.out w2 HQ2.out).2
   by_cases y5 : y = 0
   ·subst y5
    go_wp2_with fail
    refine (P5.out _).mono ?_
    rintro _ w3 ⟨rfl, q3⟩
    have HQ3 := hid (HQ2.out.trans (q3.mono HQ2.out.size))
    have HROW3 := hid (row_later HROW2.out q3)
    clear q3 c0 c1
    have c0 := (HC.out w3 HQ3.out).1
    have c1 := (HC.out w3 HQ3.out).2
    obtain ⟨o, ho⟩ : ∃ o : Nat, 91 = o := ⟨_, rfl⟩
    have hoI : (91 : Int) = (o : Int) := by omega
    clear hoI
    subst ho
    have HO := hid (show 91 < 256 by omega)
    have o0 : (0 : Int) ≤ (91 : Int) := by omega
    have o1 : (91 : Int) < 256 := by omega
    obtain ⟨va, wa, hra, hown, hgrow, _⟩ := HAP.out w3 ov l.length _ HQ3.out.size HROW3.out (by have := HK.out; omega) (91 : Int)
    have hby : Lib.byteCells l ++ [.int .u8 (91 : Int)] = Lib.byteCells (l ++ [UInt8.ofNat 91]) := (byteCells_snoc l 91 HO.out).symm
    rw [hby] at hown
    have HW := hid (And.intro hown ((HQ3.out.alloc HQ3.out.size (.cells #[.int .u8 (91 : Int)] tB)).grown hgrow (by have h1 := HQ3.out.size; simp; omega) (fun k e => (HROW3.out.lt k e).1)))
    clear hown hgrow hby c0 c1
    have BH := hid (refBehind_ret 91 HO.out)
    have HPL := hid (pushN_le 91)
    obtain ⟨pn, hpn⟩ : ∃ pn, pushN 91 = pn := ⟨_, rfl⟩
    rw [hpn] at BH HPL
    have HPN := hid (show pushN (UInt8.ofNat 91).toNat = pn by rw [UInt8.toNat_ofNat_of_lt' HO.out]; exact hpn)
    clear hpn
    go_wp2_with (at_builtin; refine wpList_append_runB rfl (.tmp 46) (.tmp 48) _ _ rfl _ _ _ rfl rfl hra ?_)
    clear hra
    go_loopw [3, 6] (fun ou j wr => ∃ (m : Nat) (bs : List UInt8), j = .int .i64 (m : Int) ∧ m ≤ pn ∧ bs.length = m ∧ wr.ownsRow W.heap.size tB 1 ou (l ++ UInt8.ofNat 91 :: bs).length (Lib.byteCells (l ++ UInt8.ofNat 91 :: bs)) ∧ Below W.heap.size W wr) (fun _ j _ => pn - (intOf j).toNat)
    case atStart => exact ⟨0, [], rfl, by omega, rfl, by rw [List.length_append]; exact HW.out.1, HW.out.2⟩
    case round =>
     obtain ⟨m, bs, rfl, hm, hbl, hrow, hq⟩ := hrel
     obtain ⟨ou, hou⟩ : ∃ ou, ou = u3 := ⟨_, rfl⟩
     subst hou
     have HQR := hid hq
     have HRR := hid hrow
     have HM := hid (And.intro hm hbl)
     have m0 : (0 : Int) ≤ (m : Int) := by omega
     have m1 : (m : Int) ≤ 32 := by have := HPL.out; omega
     clear hrow hq hbl HW
     go_wp2_with fail
     refine (BH.out _).mono ?_
     rintro _ w5 ⟨rfl, q5⟩
     have HQ5 := hid (HQR.out.trans (q5.mono HQR.out.size))
     have HR5 := hid (row_later HRR.out q5)
     clear q5
     by_cases hlt : m < pn
     ·have hltI : (m : Int) < (pn : Int) := by omega
      have HLT := hid hlt
      have c1 := (HC.out w5 HQ5.out).2
      have qq := quo3 p2 HI2.out (m : Int) m0 (by omega)
      have PB := hid (pick_ret (p2.tdiv 3 + (m : Int)) qq.1 256 (by decide) (by decide))
      obtain ⟨d, hd, hd1⟩ := pick_u8 (p2.tdiv 3 + (m : Int)) 256 (by decide)
      rw [hd] at PB
      obtain ⟨_, g1, g2, g3, g4⟩ := qq
      have d0 : (0 : Int) ≤ (d : Int) := by omega
      clear hd hlt hm
      go_wp2_with fail
      refine (PB.out _).mono ?_
      rintro _ w6 ⟨rfl, q6⟩
      have HQ6 := hid (HQ5.out.trans (q6.mono HQ5.out.size))
      have HR6 := hid (row_later HR5.out q6)
      clear q6 c1 g1 g2 g3 g4
      obtain ⟨vb, wb, hrb, hown, hgrow, _⟩ := HAP.out w6 ou _ _ HQ6.out.size HR6.out (by have := HK.out; have := HM.out; have := HPL.out; simp; omega) (d : Int)
      have hby : Lib.byteCells (l ++ UInt8.ofNat 91 :: bs) ++ [.int .u8 (d : Int)] = Lib.byteCells ((l ++ UInt8.ofNat 91 :: bs) ++ [UInt8.ofNat d]) := (byteCells_snoc _ d (by omega)).symm
      rw [hby] at hown
      have HW := hid (And.intro hown ((HQ6.out.alloc HQ6.out.size (.cells #[.int .u8 (d : Int)] tB)).grown hgrow (by have h1 := HQ6.out.size; simp; omega) (fun k e => (HR6.out.lt k e).1)))
      clear hown hgrow hby
      go_wp2_with (at_builtin; refine wpList_append_runB rfl (.tmp 56) (.tmp 67) _ _ rfl _ _ _ rfl rfl hrb ?_)
      go_roundw
      case rel => exact ⟨m + 1, bs ++ [UInt8.ofNat d], by simp, HLT.out, by rw [List.length_append, HM.out.2]; rfl, by have h := HW.out.1; rw [List.append_assoc, List.cons_append] at h; rw [show (l ++ UInt8.ofNat 91 :: (bs ++ [UInt8.ofNat d])).length = (l ++ UInt8.ofNat 91 :: bs).length + 1 by simp; omega]; exact h, HW.out.2⟩
      case measure => have := HLT.out; simp [intOf]; omega
     ·have hge : ¬ (m : Int) < (pn : Int) := by omega
      obtain rfl : m = pn := by omega
      clear hlt hm
      go_wp2_with fail
      go_roundw
      case rel => exact ⟨k + 1, by simp, l ++ UInt8.ofNat 91 :: bs, by have := HKK.out; omega, by have := HKK.out; omega, HCP.out.snoc _ bs (by rw [HPN.out]; exact HM.out.2), by have := HK.out; have := HM.out.2; have := HPL.out; simp; omega, HR5.out, HQ5.out⟩
      case measure => have := HKK.out; simp [intOf]; omega
   ·have y5I : ¬ (y : Int) = 0 := by omega
    by_cases y6 : y = 1
    ·subst y6
     go_wp2_with fail
     refine (P5.out _).mono ?_
     rintro _ w3 ⟨rfl, q3⟩
     have HQ3 := hid (HQ2.out.trans (q3.mono HQ2.out.size))
     have HROW3 := hid (row_later HROW2.out q3)
     clear q3 c0 c1
     have c0 := (HC.out w3 HQ3.out).1
     have c1 := (HC.out w3 HQ3.out).2
     go_wp2_with fail
     refine (P4.out _).mono ?_
     rintro _ w4 ⟨rfl, q4⟩
     have HQ4 := hid (HQ3.out.trans (q4.mono HQ3.out.size))
     have HROW4 := hid (row_later HROW3.out q4)
     clear q4
     obtain ⟨o, ho⟩ : ∃ o : Nat, 96 + z = o := ⟨_, rfl⟩
     have hoI : (96 : Int) + (z : Int) = (o : Int) := by omega
     have hoL : o < 256 := by omega
     have HO := hid (show o < 256 by omega)
     have o0 : (0 : Int) ≤ (o : Int) := by omega
     have o1 : (o : Int) < 256 := by omega
     obtain ⟨va, wa, hra, hown, hgrow, _⟩ := HAP.out w4 ov l.length _ HQ4.out.size HROW4.out (by have := HK.out; omega) (o : Int)
     have hby : Lib.byteCells l ++ [.int .u8 (o : Int)] = Lib.byteCells (l ++ [UInt8.ofNat o]) := (byteCells_snoc l o HO.out).symm
     rw [hby] at hown
     have HW := hid (And.intro hown ((HQ4.out.alloc HQ4.out.size (.cells #[.int .u8 (o : Int)] tB)).grown hgrow (by have h1 := HQ4.out.size; simp; omega) (fun k e => (HROW4.out.lt k e).1)))
     clear hown hgrow hby c0 c1
     have BH := hid (refBehind_ret o HO.out)
     have HPL := hid (pushN_le o)
     obtain ⟨pn, hpn⟩ : ∃ pn, pushN o = pn := ⟨_, rfl⟩
     rw [hpn] at BH HPL
     have HPN := hid (show pushN (UInt8.ofNat o).toNat = pn by rw [UInt8.toNat_ofNat_of_lt' HO.out]; exact hpn)
     clear hpn
     go_wp2_with (at_builtin; refine wpList_append_runB rfl (.tmp 46) (.tmp 48) _ _ rfl _ _ _ rfl rfl hra ?_)
     clear hra
     go_loopw [3, 6] (fun ou j wr => ∃ (m : Nat) (bs : List UInt8), j = .int .i64 (m : Int) ∧ m ≤ pn ∧ bs.length = m ∧ wr.ownsRow W.heap.size tB 1 ou (l ++ UInt8.ofNat o :: bs).length (Lib.byteCells (l ++ UInt8.ofNat o :: bs)) ∧ Below W.heap.size W wr) (fun _ j _ => pn - (intOf j).toNat)
     case atStart => exact ⟨0, [], rfl, by omega, rfl, by rw [List.length_append]; exact HW.out.1, HW.out.2⟩
     case round =>
      obtain ⟨m, bs, rfl, hm, hbl, hrow, hq⟩ := hrel
      obtain ⟨ou, hou⟩ : ∃ ou, ou = u3 := ⟨_, rfl⟩
      subst hou
      have HQR := hid hq
      have HRR := hid hrow
      have HM := hid (And.intro hm hbl)
      have m0 : (0 : Int) ≤ (m : Int) := by omega
      have m1 : (m : Int) ≤ 32 := by have := HPL.out; omega
      clear hrow hq hbl HW
      go_wp2_with fail
      refine (BH.out _).mono ?_
      rintro _ w5 ⟨rfl, q5⟩
      have HQ5 := hid (HQR.out.trans (q5.mono HQR.out.size))
      have HR5 := hid (row_later HRR.out q5)
      clear q5
      by_cases hlt : m < pn
      ·have hltI : (m : Int) < (pn : Int) := by omega
       have HLT := hid hlt
       have c1 := (HC.out w5 HQ5.out).2
       have qq := quo3 p2 HI2.out (m : Int) m0 (by omega)
       have PB := hid (pick_ret (p2.tdiv 3 + (m : Int)) qq.1 256 (by decide) (by decide))
       obtain ⟨d, hd, hd1⟩ := pick_u8 (p2.tdiv 3 + (m : Int)) 256 (by decide)
       rw [hd] at PB
       obtain ⟨_, g1, g2, g3, g4⟩ := qq
       have d0 : (0 : Int) ≤ (d : Int) := by omega
       clear hd hlt hm
       go_wp2_with fail
       refine (PB.out _).mono ?_
       rintro _ w6 ⟨rfl, q6⟩
       have HQ6 := hid (HQ5.out.trans (q6.mono HQ5.out.size))
       have HR6 := hid (row_later HR5.out q6)
       clear q6 c1 g1 g2 g3 g4
       obtain ⟨vb, wb, hrb, hown, hgrow, _⟩ := HAP.out w6 ou _ _ HQ6.out.size HR6.out (by have := HK.out; have := HM.out; have := HPL.out; simp; omega) (d : Int)
       have hby : Lib.byteCells (l ++ UInt8.ofNat o :: bs) ++ [.int .u8 (d : Int)] = Lib.byteCells ((l ++ UInt8.ofNat o :: bs) ++ [UInt8.ofNat d]) := (byteCells_snoc _ d (by omega)).symm
       rw [hby] at hown
       have HW := hid (And.intro hown ((HQ6.out.alloc HQ6.out.size (.cells #[.int .u8 (d : Int)] tB)).grown hgrow (by have h1 := HQ6.out.size; simp; omega) (fun k e => (HR6.out.lt k e).1)))
       clear hown hgrow hby
       go_wp2_with (at_builtin; refine wpList_append_runB rfl (.tmp 56) (.tmp 67) _ _ rfl _ _ _ rfl rfl hrb ?_)
       go_roundw
       case rel => exact ⟨m + 1, bs ++ [UInt8.ofNat d], by simp, HLT.out, by rw [List.length_append, HM.out.2]; rfl, by have h := HW.out.1; rw [List.append_assoc, List.cons_append] at h; rw [show (l ++ UInt8.ofNat o :: (bs ++ [UInt8.ofNat d])).length = (l ++ UInt8.ofNat o :: bs).length + 1 by simp; omega]; exact h, HW.out.2⟩
       case measure => have := HLT.out; simp [intOf]; omega
      ·have hge : ¬ (m : Int) < (pn : Int) := by omega
       obtain rfl : m = pn := by omega
       clear hlt hm
       go_wp2_with fail
       go_roundw
       case rel => exact ⟨k + 1, by simp, l ++ UInt8.ofNat o :: bs, by have := HKK.out; omega, by have := HKK.out; omega, HCP.out.snoc _ bs (by rw [HPN.out]; exact HM.out.2), by have := HK.out; have := HM.out.2; have := HPL.out; simp; omega, HR5.out, HQ5.out⟩
       case measure => have := HKK.out; simp [intOf]; omega
    ·have y6I : ¬ (y : Int) = 1 := by omega
     go_wp2_with fail
     refine (P5.out _).mono ?_
     rintro _ w3 ⟨rfl, q3⟩
     have HQ3 := hid (HQ2.out.trans (q3.mono HQ2.out.size))
     have HROW3 := hid (row_later HROW2.out q3)
     clear q3 c0 c1
     have c0 := (HC.out w3 HQ3.out).1
     have c1 := (HC.out w3 HQ3.out).2
     have HO := hid (show x < 256 by omega)
     have o0 : (0 : Int) ≤ (x : Int) := by omega
     have o1 : (x : Int) < 256 := by omega
     obtain ⟨va, wa, hra, hown, hgrow, _⟩ := HAP.out w3 ov l.length _ HQ3.out.size HROW3.out (by have := HK.out; omega) (x : Int)
     have hby : Lib.byteCells l ++ [.int .u8 (x : Int)] = Lib.byteCells (l ++ [UInt8.ofNat x]) := (byteCells_snoc l x HO.out).symm
     rw [hby] at hown
     have HW := hid (And.intro hown ((HQ3.out.alloc HQ3.out.size (.cells #[.int .u8 (x : Int)] tB)).grown hgrow (by have h1 := HQ3.out.size; simp; omega) (fun k e => (HROW3.out.lt k e).1)))
     clear hown hgrow hby c0 c1
     have BH := hid (refBehind_ret x HO.out)
     have HPL := hid (pushN_le x)
     obtain ⟨pn, hpn⟩ : ∃ pn, pushN x = pn := ⟨_, rfl⟩
     rw [hpn] at BH HPL
     have HPN := hid (show pushN (UInt8.ofNat x).toNat = pn by rw [UInt8.toNat_ofNat_of_lt' HO.out]; exact hpn)
     clear hpn
     go_wp2_with (at_builtin; refine wpList_append_runB rfl (.tmp 46) (.tmp 48) _ _ rfl _ _ _ rfl rfl hra ?_)
     clear hra
     go_loopw [3, 6] (fun ou j wr => ∃ (m : Nat) (bs : List UInt8), j = .int .i64 (m : Int) ∧ m ≤ pn ∧ bs.length = m ∧ wr.ownsRow W.heap.size tB 1 ou (l ++ UInt8.ofNat x :: bs).length (Lib.byteCells (l ++ UInt8.ofNat x :: bs)) ∧ Below W.heap.size W wr) (fun _ j _ => pn - (intOf j).toNat)
     case atStart => exact ⟨0, [], rfl, by omega, rfl, by rw [List.length_append]; exact HW.out.1, HW.out.2⟩
     case round =>
      obtain ⟨m, bs, rfl, hm, hbl, hrow, hq⟩ := hrel
      obtain ⟨ou, hou⟩ : ∃ ou, ou = u3 := ⟨_, rfl⟩
      subst hou
      have HQR := hid hq
      have HRR := hid hrow
      have HM := hid (And.intro hm hbl)
      have m0 : (0 : Int) ≤ (m : Int) := by omega
      have m1 : (m : Int) ≤ 32 := by have := HPL.out; omega
      clear hrow hq hbl HW
      go_wp2_with fail
      refine (BH.out _).mono ?_
      rintro _ w5 ⟨rfl, q5⟩
      have HQ5 := hid (HQR.out.trans (q5.mono HQR.out.size))
      have HR5 := hid (row_later HRR.out q5)
      clear q5
      by_cases hlt : m < pn
      ·have hltI : (m : Int) < (pn : Int) := by omega
       have HLT := hid hlt
       have c1 := (HC.out w5 HQ5.out).2
       have qq := quo3 p2 HI2.out (m : Int) m0 (by omega)
       have PB := hid (pick_ret (p2.tdiv 3 + (m : Int)) qq.1 256 (by decide) (by decide))
       obtain ⟨d, hd, hd1⟩ := pick_u8 (p2.tdiv 3 + (m : Int)) 256 (by decide)
       rw [hd] at PB
       obtain ⟨_, g1, g2, g3, g4⟩ := qq
       have d0 : (0 : Int) ≤ (d : Int) := by omega
       clear hd hlt hm
       go_wp2_with fail
       refine (PB.out _).mono ?_
       rintro _ w6 ⟨rfl, q6⟩
       have HQ6 := hid (HQ5.out.trans (q6.mono HQ5.out.size))
       have HR6 := hid (row_later HR5.out q6)
       clear q6 c1 g1 g2 g3 g4
       obtain ⟨vb, wb, hrb, hown, hgrow, _⟩ := HAP.out w6 ou _ _ HQ6.out.size HR6.out (by have := HK.out; have := HM.out; have := HPL.out; simp; omega) (d : Int)
       have hby : Lib.byteCells (l ++ UInt8.ofNat x :: bs) ++ [.int .u8 (d : Int)] = Lib.byteCells ((l ++ UInt8.ofNat x :: bs) ++ [UInt8.ofNat d]) := (byteCells_snoc _ d (by omega)).symm
       rw [hby] at hown
       have HW := hid (And.intro hown ((HQ6.out.alloc HQ6.out.size (.cells #[.int .u8 (d : Int)] tB)).grown hgrow (by have h1 := HQ6.out.size; simp; omega) (fun k e => (HR6.out.lt k e).1)))
       clear hown hgrow hby
       go_wp2_with (at_builtin; refine wpList_append_runB rfl (.tmp 56) (.tmp 67) _ _ rfl _ _ _ rfl rfl hrb ?_)
       go_roundw
       case rel => exact ⟨m + 1, bs ++ [UInt8.ofNat d], by simp, HLT.out, by rw [List.length_append, HM.out.2]; rfl, by have h := HW.out.1; rw [List.append_assoc, List.cons_append] at h; rw [show (l ++ UInt8.ofNat x :: (bs ++ [UInt8.ofNat d])).length = (l ++ UInt8.ofNat x :: bs).length + 1 by simp; omega]; exact h, HW.out.2⟩
       case measure => have := HLT.out; simp [intOf]; omega
      ·have hge : ¬ (m : Int) < (pn : Int) := by omega
       obtain rfl : m = pn := by omega
       clear hlt hm
       go_wp2_with fail
       go_roundw
       case rel => exact ⟨k + 1, by simp, l ++ UInt8.ofNat x :: bs, by have := HKK.out; omega, by have := HKK.out; omega, HCP.out.snoc _ bs (by rw [HPN.out]; exact HM.out.2), by have := HK.out; have := HM.out.2; have := HPL.out; simp; omega, HR5.out, HQ5.out⟩
       case measure => have := HKK.out; simp [intOf]; omega
  ·have hk' : k = n ∨ k = 40 := by have := HK.out; omega
   have hcv := conv_own HROW.out
   have HLL := hid (show l.length ≤ 1320 by have := HK.out; omega)
   rcases hk' with rfl | rfl
   ·have hkk : ¬ (k : Int) < (k : Int) := by omega
    clear hk hkn hk40 hll
    go_wp2_with fail
    go_ret
    exact ⟨⟨l, rfl, HCP.out, HLL.out⟩, HQ.out⟩
   ·have hkk : ¬ (40 : Int) < 40 := by omega
    by_cases hkn' : 40 < n
    ·have hkI : (40 : Int) < (n : Int) := by omega
     clear hk hkn hk40 hll
     go_wp2_with fail
     go_ret
     exact ⟨⟨l, rfl, HCP.out, HLL.out⟩, HQ.out⟩
    ·have hkI : ¬ (40 : Int) < (n : Int) := by omega
     clear hk hkn hk40 hll
     go_wp2_with fail
     go_ret
     exact ⟨⟨l, rfl, HCP.out, HLL.out⟩, HQ.out⟩
end
end Go.Proofs.YthcmfadofogfaaaDoor
