/- What Clash and May tell of joined sets. Conditions: none. -/
import Derived.Test.YtbkgipggblphlaaAkI
namespace Go.Proofs.Ytbkgipggblphlaa
open Go Go.RowKit

theorem meet_iff {a b : List Ky} : meetB a b = true ↔ ∃ x, x ∈ a ∧ x ∈ b := by
  constructor
  · intro h
    obtain ⟨x, h1, h2⟩ := List.any_eq_true.1 h
    obtain ⟨y, h3, h4⟩ := List.any_eq_true.1 h2
    have e := of_decide_eq_true h4
    subst e
    exact ⟨x, h1, h3⟩
  · exact meetB_true
theorem clash_iff {r s r2 s2 : List Ky} : clashM r s r2 s2 = true ↔ (∃ x, x ∈ s ∧ x ∈ s2) ∨ (∃ x, x ∈ s ∧ x ∈ r2) ∨ (∃ x, x ∈ r ∧ x ∈ s2) := by
  unfold clashM
  rw [Bool.or_eq_true, Bool.or_eq_true, meet_iff, meet_iff, meet_iff, or_assoc]
theorem clash_sym (r s r2 s2 : List Ky) : clashM r s r2 s2 = clashM r2 s2 r s := by
  rw [Bool.eq_iff_iff, clash_iff, clash_iff]
  constructor
  · rintro (⟨x, a, b⟩ | ⟨x, a, b⟩ | ⟨x, a, b⟩)
    · exact .inl ⟨x, b, a⟩
    · exact .inr (.inr ⟨x, b, a⟩)
    · exact .inr (.inl ⟨x, b, a⟩)
  · rintro (⟨x, a, b⟩ | ⟨x, a, b⟩ | ⟨x, a, b⟩)
    · exact .inl ⟨x, b, a⟩
    · exact .inr (.inr ⟨x, b, a⟩)
    · exact .inr (.inl ⟨x, b, a⟩)
theorem mem_join {l m : List Ky} {x : Ky} : x ∈ setL (l ++ m) ↔ x ∈ l ∨ x ∈ m := by rw [setL_mem, List.mem_append]
theorem clash_join (r s r2 s2 r3 s3 : List Ky) : clashM (setL (r ++ r2)) (setL (s ++ s2)) r3 s3 = (clashM r s r3 s3 || clashM r2 s2 r3 s3) := by
  rw [Bool.eq_iff_iff, Bool.or_eq_true, clash_iff, clash_iff, clash_iff]
  constructor
  · rintro (⟨x, a, b⟩ | ⟨x, a, b⟩ | ⟨x, a, b⟩)
    · rcases mem_join.1 a with a | a
      · exact .inl (.inl ⟨x, a, b⟩)
      · exact .inr (.inl ⟨x, a, b⟩)
    · rcases mem_join.1 a with a | a
      · exact .inl (.inr (.inl ⟨x, a, b⟩))
      · exact .inr (.inr (.inl ⟨x, a, b⟩))
    · rcases mem_join.1 a with a | a
      · exact .inl (.inr (.inr ⟨x, a, b⟩))
      · exact .inr (.inr (.inr ⟨x, a, b⟩))
  · rintro ((⟨x, a, b⟩ | ⟨x, a, b⟩ | ⟨x, a, b⟩) | (⟨x, a, b⟩ | ⟨x, a, b⟩ | ⟨x, a, b⟩))
    · exact .inl ⟨x, mem_join.2 (.inl a), b⟩
    · exact .inr (.inl ⟨x, mem_join.2 (.inl a), b⟩)
    · exact .inr (.inr ⟨x, mem_join.2 (.inl a), b⟩)
    · exact .inl ⟨x, mem_join.2 (.inr a), b⟩
    · exact .inr (.inl ⟨x, mem_join.2 (.inr a), b⟩)
    · exact .inr (.inr ⟨x, mem_join.2 (.inr a), b⟩)
theorem clash_self (r s : List Ky) : clashM r s r s = decide (0 < s.length) := by
  rw [Bool.eq_iff_iff, clash_iff, decide_eq_true_eq]
  constructor
  · rintro (⟨x, a, b⟩ | ⟨x, a, b⟩ | ⟨x, a, b⟩)
    · exact List.length_pos_of_mem a
    · exact List.length_pos_of_mem a
    · exact List.length_pos_of_mem b
  · intro h
    obtain ⟨x, hx⟩ := List.exists_mem_of_length_pos h
    exact .inl ⟨x, hx, hx⟩
theorem any_join (x : Ky) (l m : List Ky) : ((setL (l ++ m)).any fun z => decide (x = z)) = ((l.any fun z => decide (x = z)) || m.any fun z => decide (x = z)) := by
  rw [Bool.eq_iff_iff, Bool.or_eq_true]
  simp only [List.any_eq_true, decide_eq_true_eq]
  constructor
  · rintro ⟨z, h, rfl⟩
    rcases mem_join.1 h with h | h
    · exact .inl ⟨_, h, rfl⟩
    · exact .inr ⟨_, h, rfl⟩
  · rintro (⟨z, h, rfl⟩ | ⟨z, h, rfl⟩)
    · exact ⟨_, mem_join.2 (.inl h), rfl⟩
    · exact ⟨_, mem_join.2 (.inr h), rfl⟩
/-- Where there is no clash, what the one may write the other one may not read. -/
theorem clash_free {r s r2 s2 : List Ky} (x : Ky) (h : clashM r s r2 s2 = false) (hw : (s.any fun z => decide (x = z)) = true) : ((s2.any fun z => decide (x = z)) || (!false && r2.any fun z => decide (x = z))) = false := by
  refine Bool.eq_false_iff.2 fun hc => ?_
  obtain ⟨z, hz, e⟩ := List.any_eq_true.1 hw
  have e := of_decide_eq_true e
  subst e
  have key : clashM r s r2 s2 = true := clash_iff.2 (by
    rcases Bool.or_eq_true _ _ ▸ hc with h1 | h1
    · obtain ⟨y, hy, e⟩ := List.any_eq_true.1 h1
      have e := of_decide_eq_true e
      subst e
      exact .inl ⟨_, hz, hy⟩
    · rw [Bool.not_false, Bool.true_and] at h1
      obtain ⟨y, hy, e⟩ := List.any_eq_true.1 h1
      have e := of_decide_eq_true e
      subst e
      exact .inr (.inl ⟨_, hz, hy⟩))
  rw [h] at key
  cases key
end Go.Proofs.Ytbkgipggblphlaa

namespace Go.Proofs.Ytbkgipggblphlaa
open Go Go.RowKit
attribute [local go_sem] Oper.semAt_some Grows wide_fn

theorem infoSets : (Try.prog.info? 24).map (·.size) = some 2 := by kernel_rfl
theorem Has.setsLoad {W : World} {B : Nat} {x y : Value} (h : Has W B 24 #[x, y]) : (loadVar 24 ⟨B, 0, none⟩).run Try.prog W = .ok (.agg #[x, y]) W :=
  run_loadVar_row _ _ _ _ _ (0, 0) _ h Try.underlying24 rfl infoSets
/-- A set in a block: what is loaded of it is a set, in every later world. -/
theorem sets_load {Z : World} {B : Nat} {x y : Value} (h : Has Z B 24 #[x, y]) : ∀ z : World, Grows Z z → (loadVar 24 ⟨B, 0, none⟩).run Try.prog z = .ok (.agg #[x, y]) z := fun z hz => by
  obtain ⟨q, rfl⟩ := hz
  exact (h.later q.below).setsLoad
set_option maxRecDepth 100000 in
set_option maxHeartbeats 16000000 in
theorem accessClash_ret (W : World) (x1 y1 : Value) (zx1 zy1 : List (Int × Int)) (kx1 : RawAt W x1 zx1) (ky1 : RawAt W y1 zy1) (x2 y2 : Value) (zx2 zy2 : List (Int × Int)) (kx2 : RawAt W x2 zx2) (ky2 : RawAt W y2 zy2) (x3 y3 : Value) (zx3 zy3 : List (Int × Int)) (kx3 : RawAt W x3 zx3) (ky3 : RawAt W y3 zy3) (p q : Int) (hp : I64 p) (hq : I64 q) :
    Calls Try.prog 4 #[.agg #[x1, y1], .agg #[x2, y2], .agg #[x3, y3], .agg #[.int .i64 p, .int .i64 q]] W fun e w' => e = .returned (.bool true) ∧ Below W.heap.size W w' := by
  have hmx : Try.prog.follows .mixedOrders = true := by kernel_rfl
  have h1 := (((Has.new W 50 #[x1, y1]).alloc (.cells #[x2, y2] 50)).alloc (.cells #[x3, y3] 50)).alloc (.cells #[.int .i64 p, .int .i64 q] 51)
  have h2 := ((Has.new (W.alloc (.cells #[x1, y1] 50)) 50 #[x2, y2]).alloc (.cells #[x3, y3] 50)).alloc (.cells #[.int .i64 p, .int .i64 q] 51)
  have h3 := (Has.new ((W.alloc (.cells #[x1, y1] 50)).alloc (.cells #[x2, y2] 50)) 50 #[x3, y3]).alloc (.cells #[.int .i64 p, .int .i64 q] 51)
  have h4 := Has.new (((W.alloc (.cells #[x1, y1] 50)).alloc (.cells #[x2, y2] 50)).alloc (.cells #[x3, y3] 50)) 51 #[.int .i64 p, .int .i64 q]
  simp only [World.size_alloc] at h2 h3 h4
  have q0 := ((((Below.refl W.heap.size W).alloc (Nat.le_refl _) (.cells #[x1, y1] 50)).alloc (by simp) (.cells #[x2, y2] 50)).alloc (by simp; omega) (.cells #[x3, y3] 50)).alloc (by simp; omega) (.cells #[.int .i64 p, .int .i64 q] 51)
  obtain ⟨ra1, rc1, rfl, _, _⟩ := id kx1
  obtain ⟨sa1, sc1, rfl, _, _⟩ := id ky1
  obtain ⟨ra2, rc2, rfl, _, _⟩ := id kx2
  obtain ⟨sa2, sc2, rfl, _, _⟩ := id ky2
  obtain ⟨ra3, rc3, rfl, _, _⟩ := id kx3
  obtain ⟨sa3, sc3, rfl, _, _⟩ := id ky3
  obtain ⟨V, hV⟩ : ∃ V, (((W.alloc (.cells #[.slice ra1 zx1.length rc1, .slice sa1 zy1.length sc1] 50)).alloc (.cells #[.slice ra2 zx2.length rc2, .slice sa2 zy2.length sc2] 50)).alloc (.cells #[.slice ra3 zx3.length rc3, .slice sa3 zy3.length sc3] 50)).alloc (.cells #[.int .i64 p, .int .i64 q] 51) = V := ⟨_, rfl⟩
  rw [hV] at h1 h2 h3 h4 q0
  have RX1 := Lib.hid (kx1.later q0)
  have RY1 := Lib.hid (ky1.later q0)
  have HB1 := Lib.hid h1
  have RX2 := Lib.hid (kx2.later q0)
  have RY2 := Lib.hid (ky2.later q0)
  have HB2 := Lib.hid h2
  have RX3 := Lib.hid (kx3.later q0)
  have RY3 := Lib.hid (ky3.later q0)
  have HB3 := Lib.hid h3
  have HB4 := Lib.hid h4
  have QW := Lib.hid q0
  have QV := Lib.hid (Below.refl V.heap.size V)
  have KYX := Lib.hid (fun X => key10_any X p q hp hq)
  have OKX := Lib.hid (keyN_ok p q)
  clear q0 h1 h2 h3 h4 kx1 ky1 kx2 ky2 kx3 ky3
  generalize keyN p q = x at *
  have SN1 := Lib.hid (fun X h1 h2 => sets10_any X (.slice ra1 zx1.length rc1) (.slice sa1 zy1.length sc1) zx1 zy1 h1 h2)
  have FR1 := Lib.hid (setN_fit zx1)
  have FS1 := Lib.hid (setN_fit zy1)
  have SN2 := Lib.hid (fun X h1 h2 => sets10_any X (.slice ra2 zx2.length rc2) (.slice sa2 zy2.length sc2) zx2 zy2 h1 h2)
  have FR2 := Lib.hid (setN_fit zx2)
  have FS2 := Lib.hid (setN_fit zy2)
  have SN3 := Lib.hid (fun X h1 h2 => sets10_any X (.slice ra3 zx3.length rc3) (.slice sa3 zy3.length sc3) zx3 zy3 h1 h2)
  have FR3 := Lib.hid (setN_fit zx3)
  have FS3 := Lib.hid (setN_fit zy3)
  generalize setN zx1 = r1 at *
  generalize setN zy1 = s1 at *
  generalize setN zx2 = r2 at *
  generalize setN zy2 = s2 at *
  generalize setN zx3 = r3 at *
  generalize setN zy3 = s3 at *
  obtain ⟨nx1, hnx1⟩ : ∃ n, zx1.length = n := ⟨_, rfl⟩
  obtain ⟨ny1, hny1⟩ : ∃ n, zy1.length = n := ⟨_, rfl⟩
  obtain ⟨nx2, hnx2⟩ : ∃ n, zx2.length = n := ⟨_, rfl⟩
  obtain ⟨ny2, hny2⟩ : ∃ n, zy2.length = n := ⟨_, rfl⟩
  obtain ⟨nx3, hnx3⟩ : ∃ n, zx3.length = n := ⟨_, rfl⟩
  obtain ⟨ny3, hny3⟩ : ∃ n, zy3.length = n := ⟨_, rfl⟩
  rw [hnx1, hnx2, hnx3, hny1, hny2, hny3] at hV ⊢
  rw [hnx1] at RX1 HB1 SN1
  rw [hny1] at RY1 HB1 SN1
  rw [hnx2] at RX2 HB2 SN2
  rw [hny2] at RY2 HB2 SN2
  rw [hnx3] at RX3 HB3 SN3
  rw [hny3] at RY3 HB3 SN3
  clear hnx1 hnx2 hnx3 hny1 hny2 hny3
  go_enter Try.func4, Try.ntmps4
  go_wp2_with fail
  clear hV
  have AW := Lib.hid (awake_any V)
  refine AW.out.mono ?_
  rintro _ w1 ⟨rfl, hb1⟩
  replace QV := Lib.hid (QV.out.trans hb1)
  clear AW hb1
  have c0 := (HB1.out.later QV.out).cell 0 _ rfl
  have c1 := (HB1.out.later QV.out).cell 1 _ rfl
  have CC := Lib.hid (SN1.out w1 (RX1.out.later QV.out) (RY1.out.later QV.out))
  go_wp2_with fail
  clear c0 c1
  refine CC.out.mono ?_
  rintro _ w2 ⟨x1, y1, rfl, kx1, ky1, hb⟩
  replace QV := Lib.hid (QV.out.trans (hb.mono QV.out.size))
  clear CC hb
  obtain ⟨ax1, cx1, ex1, _⟩ := kx1.shape
  obtain ⟨ay1, cy1, ey1, _⟩ := ky1.shape
  subst ex1 ey1
  have hB := Has.new w2 24 #[.slice ax1 r1.length cx1, .slice ay1 s1.length cy1]
  have hq := (Below.refl w2.heap.size w2).alloc (Nat.le_refl _) (.cells #[.slice ax1 r1.length cx1, .slice ay1 s1.length cy1] 24)
  obtain ⟨A1, hA1⟩ : ∃ A1, w2.alloc (.cells #[.slice ax1 r1.length cx1, .slice ay1 s1.length cy1] 24) = A1 := ⟨_, rfl⟩
  rw [hA1] at hB hq
  have HS1 := Lib.hid hB
  have KX1 := Lib.hid (kx1.later hq)
  have KY1 := Lib.hid (ky1.later hq)
  replace QV := Lib.hid (QV.out.trans (hq.mono QV.out.size))
  have T1 := Lib.hid (Below.refl A1.heap.size A1)
  clear hB hq kx1 ky1
  have c0 := (HB2.out.later QV.out).cell 0 _ rfl
  have c1 := (HB2.out.later QV.out).cell 1 _ rfl
  have CC := Lib.hid (SN2.out A1 (RX2.out.later QV.out) (RY2.out.later QV.out))
  go_wp2_with fail
  clear c0 c1 hA1
  refine CC.out.mono ?_
  rintro _ w3 ⟨x2, y2, rfl, kx2, ky2, hb⟩
  replace QV := Lib.hid (QV.out.trans (hb.mono QV.out.size))
  replace T1 := Lib.hid (T1.out.trans (hb.mono T1.out.size))
  clear CC hb
  obtain ⟨ax2, cx2, ex2, _⟩ := kx2.shape
  obtain ⟨ay2, cy2, ey2, _⟩ := ky2.shape
  subst ex2 ey2
  have hB := Has.new w3 24 #[.slice ax2 r2.length cx2, .slice ay2 s2.length cy2]
  have hq := (Below.refl w3.heap.size w3).alloc (Nat.le_refl _) (.cells #[.slice ax2 r2.length cx2, .slice ay2 s2.length cy2] 24)
  obtain ⟨A2, hA2⟩ : ∃ A2, w3.alloc (.cells #[.slice ax2 r2.length cx2, .slice ay2 s2.length cy2] 24) = A2 := ⟨_, rfl⟩
  rw [hA2] at hB hq
  have HS2 := Lib.hid hB
  have KX2 := Lib.hid (kx2.later hq)
  have KY2 := Lib.hid (ky2.later hq)
  replace QV := Lib.hid (QV.out.trans (hq.mono QV.out.size))
  replace T1 := Lib.hid (T1.out.trans (hq.mono T1.out.size))
  have T2 := Lib.hid (Below.refl A2.heap.size A2)
  clear hB hq kx2 ky2
  have c0 := (HB3.out.later QV.out).cell 0 _ rfl
  have c1 := (HB3.out.later QV.out).cell 1 _ rfl
  have CC := Lib.hid (SN3.out A2 (RX3.out.later QV.out) (RY3.out.later QV.out))
  go_wp2_with fail
  clear c0 c1 hA2
  refine CC.out.mono ?_
  rintro _ w4 ⟨x3, y3, rfl, kx3, ky3, hb⟩
  replace QV := Lib.hid (QV.out.trans (hb.mono QV.out.size))
  replace T1 := Lib.hid (T1.out.trans (hb.mono T1.out.size))
  replace T2 := Lib.hid (T2.out.trans (hb.mono T2.out.size))
  clear CC hb
  obtain ⟨ax3, cx3, ex3, _⟩ := kx3.shape
  obtain ⟨ay3, cy3, ey3, _⟩ := ky3.shape
  subst ex3 ey3
  have hB := Has.new w4 24 #[.slice ax3 r3.length cx3, .slice ay3 s3.length cy3]
  have hq := (Below.refl w4.heap.size w4).alloc (Nat.le_refl _) (.cells #[.slice ax3 r3.length cx3, .slice ay3 s3.length cy3] 24)
  obtain ⟨A3, hA3⟩ : ∃ A3, w4.alloc (.cells #[.slice ax3 r3.length cx3, .slice ay3 s3.length cy3] 24) = A3 := ⟨_, rfl⟩
  rw [hA3] at hB hq
  have HS3 := Lib.hid hB
  have KX3 := Lib.hid (kx3.later hq)
  have KY3 := Lib.hid (ky3.later hq)
  replace QV := Lib.hid (QV.out.trans (hq.mono QV.out.size))
  replace T1 := Lib.hid (T1.out.trans (hq.mono T1.out.size))
  replace T2 := Lib.hid (T2.out.trans (hq.mono T2.out.size))
  have T3 := Lib.hid (Below.refl A3.heap.size A3)
  clear hB hq kx3 ky3
  obtain ⟨pb, hpb⟩ : ∃ p, setL (r1 ++ r2) = p := ⟨_, rfl⟩
  obtain ⟨qb, hqb⟩ : ∃ p, setL (s1 ++ s2) = p := ⟨_, rfl⟩
  have EB := Lib.hid (And.intro hpb hqb)
  have FR4 := Lib.hid (show FitN pb 30 from by rw [← hpb]; exact FR1.out.join FR2.out)
  have FS4 := Lib.hid (show FitN qb 30 from by rw [← hqb]; exact FS1.out.join FS2.out)
  have CB12 := Lib.hid (clash_sym r2 s2 r1 s1)
  have CJ := Lib.hid (show clashM pb qb r3 s3 = (clashM r1 s1 r3 s3 || clashM r2 s2 r3 s3) from by rw [← hpb, ← hqb]; exact clash_join r1 s1 r2 s2 r3 s3)
  have CS := Lib.hid (clash_self r1 s1)
  have MJ := Lib.hid (show ∀ b : Bool, (qb.any (fun z => decide (x = z)) || (!b && pb.any fun z => decide (x = z))) = ((s1.any (fun z => decide (x = z)) || (!b && r1.any fun z => decide (x = z))) || (s2.any (fun z => decide (x = z)) || (!b && r2.any fun z => decide (x = z)))) from fun b => by
    rw [← hpb, ← hqb, any_join, any_join]
    cases b <;> cases (s1.any fun z => decide (x = z)) <;> cases (s2.any fun z => decide (x = z)) <;> cases (r1.any fun z => decide (x = z)) <;> cases (r2.any fun z => decide (x = z)) <;> rfl)
  have CF := Lib.hid (fun h hw => clash_free (r := r1) (s := s1) (r2 := r2) (s2 := s2) x h hw)
  clear hpb hqb
  have u0 := (HS1.out.later T1.out).cell 0 _ rfl
  have u1 := (HS1.out.later T1.out).cell 1 _ rfl
  have v0 := (HS2.out.later T2.out).cell 0 _ rfl
  have v1 := (HS2.out.later T2.out).cell 1 _ rfl
  have CC := Lib.hid (show Calls Try.prog 19 #[.agg #[.slice ax1 r1.length cx1, .slice ay1 s1.length cy1], .agg #[.slice ax2 r2.length cx2, .slice ay2 s2.length cy2]] A3 (SetsP A3 pb qb 0) from by
    have h := kjoin_any A3 _ _ r1 s1 r2 s2 (⟨_, _, rfl, KX1.out.later T1.out, KY1.out.later T1.out⟩ : SetsAt _ (.agg #[.slice ax1 r1.length cx1, .slice ay1 s1.length cy1]) r1 s1) (⟨_, _, rfl, KX2.out.later T2.out, KY2.out.later T2.out⟩ : SetsAt _ (.agg #[.slice ax2 r2.length cx2, .slice ay2 s2.length cy2]) r2 s2)
    rw [joinM_fit FR1.out FS1.out FR2.out FS2.out (by decide) (by decide)] at h
    rw [EB.out.1, EB.out.2] at h
    exact h)
  go_wp2_with fail
  clear u0 u1 v0 v1 hA3
  refine CC.out.mono ?_
  rintro _ w5 ⟨x4, y4, rfl, kx4, ky4, hb⟩
  replace QV := Lib.hid (QV.out.trans (hb.mono QV.out.size))
  replace T1 := Lib.hid (T1.out.trans (hb.mono T1.out.size))
  replace T2 := Lib.hid (T2.out.trans (hb.mono T2.out.size))
  replace T3 := Lib.hid (T3.out.trans (hb.mono T3.out.size))
  clear CC hb
  obtain ⟨ax4, cx4, ex4, _⟩ := kx4.shape
  obtain ⟨ay4, cy4, ey4, _⟩ := ky4.shape
  subst ex4 ey4
  have hB := Has.new w5 24 #[.slice ax4 pb.length cx4, .slice ay4 qb.length cy4]
  have hq := (Below.refl w5.heap.size w5).alloc (Nat.le_refl _) (.cells #[.slice ax4 pb.length cx4, .slice ay4 qb.length cy4] 24)
  obtain ⟨A4, hA4⟩ : ∃ A4, w5.alloc (.cells #[.slice ax4 pb.length cx4, .slice ay4 qb.length cy4] 24) = A4 := ⟨_, rfl⟩
  rw [hA4] at hB hq
  have HS4 := Lib.hid hB
  have KX4 := Lib.hid (kx4.later hq)
  have KY4 := Lib.hid (ky4.later hq)
  replace QV := Lib.hid (QV.out.trans (hq.mono QV.out.size))
  replace T1 := Lib.hid (T1.out.trans (hq.mono T1.out.size))
  replace T2 := Lib.hid (T2.out.trans (hq.mono T2.out.size))
  replace T3 := Lib.hid (T3.out.trans (hq.mono T3.out.size))
  have T4 := Lib.hid (Below.refl A4.heap.size A4)
  clear hB hq kx4 ky4
  have c0 := (HB4.out.later QV.out).cell 0 _ rfl
  have c1 := (HB4.out.later QV.out).cell 1 _ rfl
  have CC := Lib.hid (KYX.out A4)
  go_wp2_with fail
  clear c0 c1 hA4
  refine CC.out.mono ?_
  rintro _ w6 ⟨rfl, hb⟩
  replace QV := Lib.hid (QV.out.trans (hb.mono QV.out.size))
  replace T1 := Lib.hid (T1.out.trans (hb.mono T1.out.size))
  replace T2 := Lib.hid (T2.out.trans (hb.mono T2.out.size))
  replace T3 := Lib.hid (T3.out.trans (hb.mono T3.out.size))
  replace T4 := Lib.hid (T4.out.trans (hb.mono T4.out.size))
  clear CC hb
  have h0 := Has.new w6 31 #[.int .u8 0, .int .u8 0, .int .u8 0, .int .u8 0, .int .u8 0, .int .u8 0, .int .u8 0, .int .u8 0, .int .u8 0, .int .u8 0, .int .u8 0, .int .u8 0, .int .u8 0, .int .u8 0, .int .u8 0, .int .u8 0, .int .u8 0, .int .u8 0, .int .u8 0, .int .u8 0, .bool false, .int .u64 0, .int .u64 0, .int .u64 0, .int .u64 0]
  have hq := (Below.refl w6.heap.size w6).alloc (Nat.le_refl _) (.cells #[.int .u8 0, .int .u8 0, .int .u8 0, .int .u8 0, .int .u8 0, .int .u8 0, .int .u8 0, .int .u8 0, .int .u8 0, .int .u8 0, .int .u8 0, .int .u8 0, .int .u8 0, .int .u8 0, .int .u8 0, .int .u8 0, .int .u8 0, .int .u8 0, .int .u8 0, .int .u8 0, .bool false, .int .u64 0, .int .u64 0, .int .u64 0, .int .u64 0] 31)
  obtain ⟨A5, hA5⟩ : ∃ A5, w6.alloc (.cells #[.int .u8 0, .int .u8 0, .int .u8 0, .int .u8 0, .int .u8 0, .int .u8 0, .int .u8 0, .int .u8 0, .int .u8 0, .int .u8 0, .int .u8 0, .int .u8 0, .int .u8 0, .int .u8 0, .int .u8 0, .int .u8 0, .int .u8 0, .int .u8 0, .int .u8 0, .int .u8 0, .bool false, .int .u64 0, .int .u64 0, .int .u64 0, .int .u64 0] 31) = A5 := ⟨_, rfl⟩
  rw [hA5] at h0 hq
  have h4 : Has (A5.setRow w6.heap.size (kyC x)) w6.heap.size 31 (kyC x) := setRow_heap _ _ _ _ _ _ h0
  replace hq := below_rowK hq (g := w6.heap.size) (Nat.le_refl _) (kyC x)
  obtain ⟨A6, hA6⟩ : ∃ A6, A5.setRow w6.heap.size (kyC x) = A6 := ⟨_, rfl⟩
  rw [hA6] at h4 hq
  have hi : (Try.prog.info? 31).map (·.size) = some (kyC x).size := by rw [kyC_size]; exact infoKy
  have HI := Lib.hid hi
  have HZ := Lib.hid (show (#[.int .u8 0, .int .u8 0, .int .u8 0, .int .u8 0, .int .u8 0, .int .u8 0, .int .u8 0, .int .u8 0, .int .u8 0, .int .u8 0, .int .u8 0, .int .u8 0, .int .u8 0, .int .u8 0, .int .u8 0, .int .u8 0, .int .u8 0, .int .u8 0, .int .u8 0, .int .u8 0, .bool false, .int .u64 0, .int .u64 0, .int .u64 0, .int .u64 0] : Array Value).size = (kyC x).size by rw [kyC_size]; rfl)
  have HO := Lib.hid (kyC_one x)
  have H0 := Lib.hid h0
  have HX := Lib.hid h4
  replace QV := Lib.hid (QV.out.trans (hq.mono QV.out.size))
  replace T1 := Lib.hid (T1.out.trans (hq.mono T1.out.size))
  replace T2 := Lib.hid (T2.out.trans (hq.mono T2.out.size))
  replace T3 := Lib.hid (T3.out.trans (hq.mono T3.out.size))
  replace T4 := Lib.hid (T4.out.trans (hq.mono T4.out.size))
  have TX := Lib.hid (Below.refl A6.heap.size A6)
  clear h0 h4 hq hi
  obtain ⟨ab, hab⟩ : ∃ b, clashM r1 s1 r2 s2 = b := ⟨_, rfl⟩
  have EAB := Lib.hid hab
  have u0 := (HS1.out.later T1.out).cell 0 _ rfl
  have u1 := (HS1.out.later T1.out).cell 1 _ rfl
  have v0 := (HS2.out.later T2.out).cell 0 _ rfl
  have v1 := (HS2.out.later T2.out).cell 1 _ rfl
  have CC := Lib.hid (show Calls Try.prog 21 #[.agg #[.slice ax1 r1.length cx1, .slice ay1 s1.length cy1], .agg #[.slice ax2 r2.length cx2, .slice ay2 s2.length cy2]] A6 (fun e w' => e = .returned (.bool ab) ∧ Below A6.heap.size A6 w') from by
    have h := kclash_any A6 _ _ r1 s1 r2 s2 (⟨_, _, rfl, KX1.out.later T1.out, KY1.out.later T1.out⟩ : SetsAt _ (.agg #[.slice ax1 r1.length cx1, .slice ay1 s1.length cy1]) r1 s1) (⟨_, _, rfl, KX2.out.later T2.out, KY2.out.later T2.out⟩ : SetsAt _ (.agg #[.slice ax2 r2.length cx2, .slice ay2 s2.length cy2]) r2 s2) (by have := FR1.out.len; omega) (by have := FS1.out.len; omega) (by have := FR2.out.len; omega) (by have := FS2.out.len; omega)
    rw [hab] at h
    exact h)
  clear hab
  go_wp2_with (first | (refine wpList_store_row rfl _ (.tmp 15) (.tmp 43) rfl _ _ rfl rfl _ _ H0.out HI.out HZ.out HO.out ?_; rw [hA6]) | fail)
  clear hA5 hA6 u0 u1 v0 v1
  refine CC.out.mono ?_
  rintro _ Z ⟨rfl, hb⟩
  replace QV := Lib.hid (QV.out.trans (hb.mono QV.out.size))
  replace T1 := Lib.hid (T1.out.trans (hb.mono T1.out.size))
  replace T2 := Lib.hid (T2.out.trans (hb.mono T2.out.size))
  replace T3 := Lib.hid (T3.out.trans (hb.mono T3.out.size))
  replace T4 := Lib.hid (T4.out.trans (hb.mono T4.out.size))
  replace TX := Lib.hid (TX.out.trans (hb.mono TX.out.size))
  clear CC hb
  have L1 := Lib.hid (sets_load (HS1.out.later T1.out))
  have L2 := Lib.hid (sets_load (HS2.out.later T2.out))
  have L3 := Lib.hid (sets_load (HS3.out.later T3.out))
  have L4 := Lib.hid (sets_load (HS4.out.later T4.out))
  have LX := Lib.hid (show ∀ z : World, Grows Z z → (loadVar 31 ⟨w6.heap.size, 0, none⟩).run Try.prog z = .ok (.agg (kyC x)) z from fun z hz => by obtain ⟨q, rfl⟩ := hz; exact ((HX.out.later TX.out).later q.below).kyLoad)
  have LC := Lib.hid (show ∀ z : Ext Z, z.w.cell? ⟨w2.heap.size, 1, none⟩ = some (.slice ay1 s1.length cy1) from fun z => ((HS1.out.later T1.out).later z.below).cell 1 _ rfl)
  have S1 := Lib.hid (fun z : Ext Z => (⟨_, _, rfl, (KX1.out.later T1.out).later z.below, (KY1.out.later T1.out).later z.below⟩ : SetsAt z.w (.agg #[.slice ax1 r1.length cx1, .slice ay1 s1.length cy1]) r1 s1))
  have S2 := Lib.hid (fun z : Ext Z => (⟨_, _, rfl, (KX2.out.later T2.out).later z.below, (KY2.out.later T2.out).later z.below⟩ : SetsAt z.w (.agg #[.slice ax2 r2.length cx2, .slice ay2 s2.length cy2]) r2 s2))
  have S3 := Lib.hid (fun z : Ext Z => (⟨_, _, rfl, (KX3.out.later T3.out).later z.below, (KY3.out.later T3.out).later z.below⟩ : SetsAt z.w (.agg #[.slice ax3 r3.length cx3, .slice ay3 s3.length cy3]) r3 s3))
  have S4 := Lib.hid (fun z : Ext Z => (⟨_, _, rfl, (KX4.out.later T4.out).later z.below, (KY4.out.later T4.out).later z.below⟩ : SetsAt z.w (.agg #[.slice ax4 pb.length cx4, .slice ay4 qb.length cy4]) pb qb))
  obtain ⟨ac, hac⟩ : ∃ b, clashM r1 s1 r3 s3 = b := ⟨_, rfl⟩
  obtain ⟨bc, hbc⟩ : ∃ b, clashM r2 s2 r3 s3 = b := ⟨_, rfl⟩
  obtain ⟨aw, haw⟩ : ∃ b, (s1.any fun z => decide (x = z)) = b := ⟨_, rfl⟩
  obtain ⟨ar, har⟩ : ∃ b, (r1.any fun z => decide (x = z)) = b := ⟨_, rfl⟩
  obtain ⟨bw, hbw⟩ : ∃ b, (s2.any fun z => decide (x = z)) = b := ⟨_, rfl⟩
  obtain ⟨br, hbr⟩ : ∃ b, (r2.any fun z => decide (x = z)) = b := ⟨_, rfl⟩
  have cb12 := CB12.out
  rw [EAB.out] at cb12
  have cj := CJ.out
  rw [hac, hbc] at cj
  have mj := MJ.out
  rw [haw, hbw, har, hbr] at mj
  have cf := CF.out
  rw [EAB.out, haw, hbw, hbr] at cf
  have FREE := Lib.hid (show ab = false → aw = true → (bw || br) = false from fun h h' => by simpa using cf h h')
  clear cf CB12 CJ MJ CF EB
  have K21 := Lib.hid (show ∀ z : Ext Z, Calls Try.prog 21 #[.agg #[.slice ax2 r2.length cx2, .slice ay2 s2.length cy2], .agg #[.slice ax1 r1.length cx1, .slice ay1 s1.length cy1]] z.w (fun e w' => e = .returned (.bool ab) ∧ ∃ x : Ext Z, w' = x.w) from fun z => by
    have h := Ext.atK (kclash_any z.w _ _ r2 s2 r1 s1 (S2.out z) (S1.out z) (by have := FR2.out.len; omega) (by have := FS2.out.len; omega) (by have := FR1.out.len; omega) (by have := FS1.out.len; omega))
    rw [cb12] at h
    exact h)
  have K43 := Lib.hid (show ∀ z : Ext Z, Calls Try.prog 21 #[.agg #[.slice ax4 pb.length cx4, .slice ay4 qb.length cy4], .agg #[.slice ax3 r3.length cx3, .slice ay3 s3.length cy3]] z.w (fun e w' => e = .returned (.bool (ac || bc)) ∧ ∃ x : Ext Z, w' = x.w) from fun z => by
    have h := Ext.atK (kclash_any z.w _ _ pb qb r3 s3 (S4.out z) (S3.out z) (by have := FR4.out.len; omega) (by have := FS4.out.len; omega) (by have := FR3.out.len; omega) (by have := FS3.out.len; omega))
    rw [cj] at h
    exact h)
  have K13 := Lib.hid (show ∀ z : Ext Z, Calls Try.prog 21 #[.agg #[.slice ax1 r1.length cx1, .slice ay1 s1.length cy1], .agg #[.slice ax3 r3.length cx3, .slice ay3 s3.length cy3]] z.w (fun e w' => e = .returned (.bool ac) ∧ ∃ x : Ext Z, w' = x.w) from fun z => by
    have h := Ext.atK (kclash_any z.w _ _ r1 s1 r3 s3 (S1.out z) (S3.out z) (by have := FR1.out.len; omega) (by have := FS1.out.len; omega) (by have := FR3.out.len; omega) (by have := FS3.out.len; omega))
    rw [hac] at h
    exact h)
  have K23 := Lib.hid (show ∀ z : Ext Z, Calls Try.prog 21 #[.agg #[.slice ax2 r2.length cx2, .slice ay2 s2.length cy2], .agg #[.slice ax3 r3.length cx3, .slice ay3 s3.length cy3]] z.w (fun e w' => e = .returned (.bool bc) ∧ ∃ x : Ext Z, w' = x.w) from fun z => by
    have h := Ext.atK (kclash_any z.w _ _ r2 s2 r3 s3 (S2.out z) (S3.out z) (by have := FR2.out.len; omega) (by have := FS2.out.len; omega) (by have := FR3.out.len; omega) (by have := FS3.out.len; omega))
    rw [hbc] at h
    exact h)
  have K11 := Lib.hid (show ∀ z : Ext Z, Calls Try.prog 21 #[.agg #[.slice ax1 r1.length cx1, .slice ay1 s1.length cy1], .agg #[.slice ax1 r1.length cx1, .slice ay1 s1.length cy1]] z.w (fun e w' => e = .returned (.bool (decide (0 < s1.length))) ∧ ∃ x : Ext Z, w' = x.w) from fun z => by
    have h := Ext.atK (kclash_any z.w _ _ r1 s1 r1 s1 (S1.out z) (S1.out z) (by have := FR1.out.len; omega) (by have := FS1.out.len; omega) (by have := FR1.out.len; omega) (by have := FS1.out.len; omega))
    rw [CS.out] at h
    exact h)
  have M1T := Lib.hid (show ∀ z : Ext Z, Calls Try.prog 17 #[.agg #[.slice ax1 r1.length cx1, .slice ay1 s1.length cy1], .agg (kyC x), .bool true] z.w (fun e w' => e = .returned (.bool aw) ∧ ∃ x : Ext Z, w' = x.w) from fun z => by
    have h := Ext.atK (kmay_any z.w _ r1 s1 x true OKX.out (S1.out z))
    rw [haw] at h
    simpa only [Bool.not_true, Bool.not_false, Bool.true_and, Bool.false_and, Bool.or_false] using h)
  have M1F := Lib.hid (show ∀ z : Ext Z, Calls Try.prog 17 #[.agg #[.slice ax1 r1.length cx1, .slice ay1 s1.length cy1], .agg (kyC x), .bool false] z.w (fun e w' => e = .returned (.bool (aw || ar)) ∧ ∃ x : Ext Z, w' = x.w) from fun z => by
    have h := Ext.atK (kmay_any z.w _ r1 s1 x false OKX.out (S1.out z))
    rw [haw, har] at h
    simpa only [Bool.not_true, Bool.not_false, Bool.true_and, Bool.false_and, Bool.or_false] using h)
  have M2T := Lib.hid (show ∀ z : Ext Z, Calls Try.prog 17 #[.agg #[.slice ax2 r2.length cx2, .slice ay2 s2.length cy2], .agg (kyC x), .bool true] z.w (fun e w' => e = .returned (.bool bw) ∧ ∃ x : Ext Z, w' = x.w) from fun z => by
    have h := Ext.atK (kmay_any z.w _ r2 s2 x true OKX.out (S2.out z))
    rw [hbw] at h
    simpa only [Bool.not_true, Bool.not_false, Bool.true_and, Bool.false_and, Bool.or_false] using h)
  have M2F := Lib.hid (show ∀ z : Ext Z, Calls Try.prog 17 #[.agg #[.slice ax2 r2.length cx2, .slice ay2 s2.length cy2], .agg (kyC x), .bool false] z.w (fun e w' => e = .returned (.bool (bw || br)) ∧ ∃ x : Ext Z, w' = x.w) from fun z => by
    have h := Ext.atK (kmay_any z.w _ r2 s2 x false OKX.out (S2.out z))
    rw [hbw, hbr] at h
    simpa only [Bool.not_true, Bool.not_false, Bool.true_and, Bool.false_and, Bool.or_false] using h)
  have M4T := Lib.hid (show ∀ z : Ext Z, Calls Try.prog 17 #[.agg #[.slice ax4 pb.length cx4, .slice ay4 qb.length cy4], .agg (kyC x), .bool true] z.w (fun e w' => e = .returned (.bool (aw || bw)) ∧ ∃ x : Ext Z, w' = x.w) from fun z => by
    have h := Ext.atK (kmay_any z.w _ pb qb x true OKX.out (S4.out z))
    rw [mj true] at h
    simpa only [Bool.not_true, Bool.not_false, Bool.true_and, Bool.false_and, Bool.or_false] using h)
  have M4F := Lib.hid (show ∀ z : Ext Z, Calls Try.prog 17 #[.agg #[.slice ax4 pb.length cx4, .slice ay4 qb.length cy4], .agg (kyC x), .bool false] z.w (fun e w' => e = .returned (.bool (aw || ar || (bw || br))) ∧ ∃ x : Ext Z, w' = x.w) from fun z => by
    have h := Ext.atK (kmay_any z.w _ pb qb x false OKX.out (S4.out z))
    rw [mj false] at h
    simpa only [Bool.not_true, Bool.not_false, Bool.true_and, Bool.false_and, Bool.or_false] using h)
  clear S1 S2 S3 S4 hac hbc haw har hbw hbr cb12 cj mj CS EAB OKX HX H0 HI HZ HO KYX
  have QF := Lib.hid (QW.out.trans (QV.out.mono QW.out.size))
  clear HS1 KX1 KY1 T1 FR1 FS1
  clear HS2 KX2 KY2 T2 FR2 FS2
  clear HS3 KX3 KY3 T3 FR3 FS3
  clear HS4 KX4 KY4 T4 FR4 FS4
  clear RX1 RY1 HB1 SN1
  clear RX2 RY2 HB2 SN2
  clear RX3 RY3 HB3 SN3
  clear HB4 TX QW
  generalize (.agg #[.slice ax1 r1.length cx1, .slice ay1 s1.length cy1] : Value) = va1 at *
  generalize (.agg #[.slice ax2 r2.length cx2, .slice ay2 s2.length cy2] : Value) = va2 at *
  generalize (.agg #[.slice ax3 r3.length cx3, .slice ay3 s3.length cy3] : Value) = va3 at *
  generalize (.agg #[.slice ax4 pb.length cx4, .slice ay4 qb.length cy4] : Value) = va4 at *
  obtain ⟨n1, hn1⟩ : ∃ n, s1.length = n := ⟨_, rfl⟩
  rw [hn1] at K11 LC
  clear hn1
  generalize kyC x = cx at *
  go_upto_region 8 with fail
  go_cut [69] from 47 (fun c wx => c = .bool false ∧ Below Z.heap.size Z wx)
  case first =>
    clear M1T M1F M2T M2F M4T M4F K11 LC LX FREE
    rcases ab with _ | _ <;> rcases ac with _ | _ <;> rcases bc with _ | _
    all_goals (
      try simp only [Bool.or_true, Bool.true_or, Bool.or_false, Bool.false_or] at K43
      go_wp2_with fail
      try simp only [List.append]
      refine wp_region_quietL (C := Grows Z) hmx (by kernel_rfl) (grows_refl Z) ?_
      repeat (first | (with_reducible refine wpQuiet_load rfl 24 _ rfl _ rfl _ L1.out ?_; simp only [Act.put, List.setIfInBounds_toArray, List.set_cons_succ, List.set_cons_zero]) | (with_reducible refine wpQuiet_load rfl 24 _ rfl _ rfl _ L2.out ?_; simp only [Act.put, List.setIfInBounds_toArray, List.set_cons_succ, List.set_cons_zero]) | (with_reducible refine wpQuiet_load rfl 24 _ rfl _ rfl _ L3.out ?_; simp only [Act.put, List.setIfInBounds_toArray, List.set_cons_succ, List.set_cons_zero]) | (with_reducible refine wpQuiet_load rfl 24 _ rfl _ rfl _ L4.out ?_; simp only [Act.put, List.setIfInBounds_toArray, List.set_cons_succ, List.set_cons_zero]) | (with_reducible refine wpQuiet_load rfl 31 _ rfl _ rfl _ LX.out ?_; simp only [Act.put, List.setIfInBounds_toArray, List.set_cons_succ, List.set_cons_zero]) | (go_big_quiet_step (first | (with_reducible exact K21.out _) | (with_reducible exact K43.out _) | (with_reducible exact K13.out _) | (with_reducible exact K23.out _))))
      refine wpQuiet_nil ?_
      rintro _ ⟨z, rfl⟩
      go_wp2
      go_meet
      exact ⟨rfl, z.below⟩)
  case rest =>
    obtain ⟨rfl, h8⟩ := hcut
    have Q1 := Lib.hid h8
    clear h8 L3 K21 K43 K13 K23
    go_upto_region 10 with fail
    go_cut [106] from 47 (fun c wx => c = .bool false ∧ Below Z.heap.size Z wx)
    case first =>
      clear K11 LC
      rcases aw with _ | _
      · rcases bw with _ | _
        · rcases ar with _ | _
          · rcases br with _ | _
            · try simp only [Bool.or_true, Bool.true_or, Bool.or_false, Bool.false_or] at M1F
              try simp only [Bool.or_true, Bool.true_or, Bool.or_false, Bool.false_or] at M2F
              try simp only [Bool.or_true, Bool.true_or, Bool.or_false, Bool.false_or] at M4T
              try simp only [Bool.or_true, Bool.true_or, Bool.or_false, Bool.false_or] at M4F
              go_wp2_with fail
              try simp only [List.append]
              refine wp_region_quietL (C := Grows Z) hmx (by kernel_rfl) (grows_draw Q1.out) ?_
              repeat (first | (with_reducible refine wpQuiet_load rfl 24 _ rfl _ rfl _ L1.out ?_; simp only [Act.put, List.setIfInBounds_toArray, List.set_cons_succ, List.set_cons_zero]) | (with_reducible refine wpQuiet_load rfl 24 _ rfl _ rfl _ L2.out ?_; simp only [Act.put, List.setIfInBounds_toArray, List.set_cons_succ, List.set_cons_zero]) | (with_reducible refine wpQuiet_load rfl 24 _ rfl _ rfl _ L3.out ?_; simp only [Act.put, List.setIfInBounds_toArray, List.set_cons_succ, List.set_cons_zero]) | (with_reducible refine wpQuiet_load rfl 24 _ rfl _ rfl _ L4.out ?_; simp only [Act.put, List.setIfInBounds_toArray, List.set_cons_succ, List.set_cons_zero]) | (with_reducible refine wpQuiet_load rfl 31 _ rfl _ rfl _ LX.out ?_; simp only [Act.put, List.setIfInBounds_toArray, List.set_cons_succ, List.set_cons_zero]) | (go_big_quiet_step (first | (with_reducible exact M1T.out _) | (with_reducible exact M1F.out _) | (with_reducible exact M2T.out _) | (with_reducible exact M2F.out _) | (with_reducible exact M4T.out _) | (with_reducible exact M4F.out _))))
              refine wpQuiet_nil ?_
              rintro _ ⟨z, rfl⟩
              go_wp2
              go_meet
              exact ⟨rfl, z.below⟩
            · try simp only [Bool.or_true, Bool.true_or, Bool.or_false, Bool.false_or] at M1F
              try simp only [Bool.or_true, Bool.true_or, Bool.or_false, Bool.false_or] at M2F
              try simp only [Bool.or_true, Bool.true_or, Bool.or_false, Bool.false_or] at M4T
              try simp only [Bool.or_true, Bool.true_or, Bool.or_false, Bool.false_or] at M4F
              go_wp2_with fail
              try simp only [List.append]
              refine wp_region_quietL (C := Grows Z) hmx (by kernel_rfl) (grows_draw Q1.out) ?_
              repeat (first | (with_reducible refine wpQuiet_load rfl 24 _ rfl _ rfl _ L1.out ?_; simp only [Act.put, List.setIfInBounds_toArray, List.set_cons_succ, List.set_cons_zero]) | (with_reducible refine wpQuiet_load rfl 24 _ rfl _ rfl _ L2.out ?_; simp only [Act.put, List.setIfInBounds_toArray, List.set_cons_succ, List.set_cons_zero]) | (with_reducible refine wpQuiet_load rfl 24 _ rfl _ rfl _ L3.out ?_; simp only [Act.put, List.setIfInBounds_toArray, List.set_cons_succ, List.set_cons_zero]) | (with_reducible refine wpQuiet_load rfl 24 _ rfl _ rfl _ L4.out ?_; simp only [Act.put, List.setIfInBounds_toArray, List.set_cons_succ, List.set_cons_zero]) | (with_reducible refine wpQuiet_load rfl 31 _ rfl _ rfl _ LX.out ?_; simp only [Act.put, List.setIfInBounds_toArray, List.set_cons_succ, List.set_cons_zero]) | (go_big_quiet_step (first | (with_reducible exact M1T.out _) | (with_reducible exact M1F.out _) | (with_reducible exact M2T.out _) | (with_reducible exact M2F.out _) | (with_reducible exact M4T.out _) | (with_reducible exact M4F.out _))))
              refine wpQuiet_nil ?_
              rintro _ ⟨z, rfl⟩
              go_wp2
              go_meet
              exact ⟨rfl, z.below⟩
          · try simp only [Bool.or_true, Bool.true_or, Bool.or_false, Bool.false_or] at M1F
            try simp only [Bool.or_true, Bool.true_or, Bool.or_false, Bool.false_or] at M2F
            try simp only [Bool.or_true, Bool.true_or, Bool.or_false, Bool.false_or] at M4T
            try simp only [Bool.or_true, Bool.true_or, Bool.or_false, Bool.false_or] at M4F
            go_wp2_with fail
            try simp only [List.append]
            refine wp_region_quietL (C := Grows Z) hmx (by kernel_rfl) (grows_draw Q1.out) ?_
            repeat (first | (with_reducible refine wpQuiet_load rfl 24 _ rfl _ rfl _ L1.out ?_; simp only [Act.put, List.setIfInBounds_toArray, List.set_cons_succ, List.set_cons_zero]) | (with_reducible refine wpQuiet_load rfl 24 _ rfl _ rfl _ L2.out ?_; simp only [Act.put, List.setIfInBounds_toArray, List.set_cons_succ, List.set_cons_zero]) | (with_reducible refine wpQuiet_load rfl 24 _ rfl _ rfl _ L3.out ?_; simp only [Act.put, List.setIfInBounds_toArray, List.set_cons_succ, List.set_cons_zero]) | (with_reducible refine wpQuiet_load rfl 24 _ rfl _ rfl _ L4.out ?_; simp only [Act.put, List.setIfInBounds_toArray, List.set_cons_succ, List.set_cons_zero]) | (with_reducible refine wpQuiet_load rfl 31 _ rfl _ rfl _ LX.out ?_; simp only [Act.put, List.setIfInBounds_toArray, List.set_cons_succ, List.set_cons_zero]) | (go_big_quiet_step (first | (with_reducible exact M1T.out _) | (with_reducible exact M1F.out _) | (with_reducible exact M2T.out _) | (with_reducible exact M2F.out _) | (with_reducible exact M4T.out _) | (with_reducible exact M4F.out _))))
            refine wpQuiet_nil ?_
            rintro _ ⟨z, rfl⟩
            go_wp2
            go_meet
            exact ⟨rfl, z.below⟩
        · rcases ar with _ | _
          · try simp only [Bool.or_true, Bool.true_or, Bool.or_false, Bool.false_or] at M1F
            try simp only [Bool.or_true, Bool.true_or, Bool.or_false, Bool.false_or] at M2F
            try simp only [Bool.or_true, Bool.true_or, Bool.or_false, Bool.false_or] at M4T
            try simp only [Bool.or_true, Bool.true_or, Bool.or_false, Bool.false_or] at M4F
            go_wp2_with fail
            try simp only [List.append]
            refine wp_region_quietL (C := Grows Z) hmx (by kernel_rfl) (grows_draw Q1.out) ?_
            repeat (first | (with_reducible refine wpQuiet_load rfl 24 _ rfl _ rfl _ L1.out ?_; simp only [Act.put, List.setIfInBounds_toArray, List.set_cons_succ, List.set_cons_zero]) | (with_reducible refine wpQuiet_load rfl 24 _ rfl _ rfl _ L2.out ?_; simp only [Act.put, List.setIfInBounds_toArray, List.set_cons_succ, List.set_cons_zero]) | (with_reducible refine wpQuiet_load rfl 24 _ rfl _ rfl _ L3.out ?_; simp only [Act.put, List.setIfInBounds_toArray, List.set_cons_succ, List.set_cons_zero]) | (with_reducible refine wpQuiet_load rfl 24 _ rfl _ rfl _ L4.out ?_; simp only [Act.put, List.setIfInBounds_toArray, List.set_cons_succ, List.set_cons_zero]) | (with_reducible refine wpQuiet_load rfl 31 _ rfl _ rfl _ LX.out ?_; simp only [Act.put, List.setIfInBounds_toArray, List.set_cons_succ, List.set_cons_zero]) | (go_big_quiet_step (first | (with_reducible exact M1T.out _) | (with_reducible exact M1F.out _) | (with_reducible exact M2T.out _) | (with_reducible exact M2F.out _) | (with_reducible exact M4T.out _) | (with_reducible exact M4F.out _))))
            refine wpQuiet_nil ?_
            rintro _ ⟨z, rfl⟩
            go_wp2
            go_meet
            exact ⟨rfl, z.below⟩
          · try simp only [Bool.or_true, Bool.true_or, Bool.or_false, Bool.false_or] at M1F
            try simp only [Bool.or_true, Bool.true_or, Bool.or_false, Bool.false_or] at M2F
            try simp only [Bool.or_true, Bool.true_or, Bool.or_false, Bool.false_or] at M4T
            try simp only [Bool.or_true, Bool.true_or, Bool.or_false, Bool.false_or] at M4F
            go_wp2_with fail
            try simp only [List.append]
            refine wp_region_quietL (C := Grows Z) hmx (by kernel_rfl) (grows_draw Q1.out) ?_
            repeat (first | (with_reducible refine wpQuiet_load rfl 24 _ rfl _ rfl _ L1.out ?_; simp only [Act.put, List.setIfInBounds_toArray, List.set_cons_succ, List.set_cons_zero]) | (with_reducible refine wpQuiet_load rfl 24 _ rfl _ rfl _ L2.out ?_; simp only [Act.put, List.setIfInBounds_toArray, List.set_cons_succ, List.set_cons_zero]) | (with_reducible refine wpQuiet_load rfl 24 _ rfl _ rfl _ L3.out ?_; simp only [Act.put, List.setIfInBounds_toArray, List.set_cons_succ, List.set_cons_zero]) | (with_reducible refine wpQuiet_load rfl 24 _ rfl _ rfl _ L4.out ?_; simp only [Act.put, List.setIfInBounds_toArray, List.set_cons_succ, List.set_cons_zero]) | (with_reducible refine wpQuiet_load rfl 31 _ rfl _ rfl _ LX.out ?_; simp only [Act.put, List.setIfInBounds_toArray, List.set_cons_succ, List.set_cons_zero]) | (go_big_quiet_step (first | (with_reducible exact M1T.out _) | (with_reducible exact M1F.out _) | (with_reducible exact M2T.out _) | (with_reducible exact M2F.out _) | (with_reducible exact M4T.out _) | (with_reducible exact M4F.out _))))
            refine wpQuiet_nil ?_
            rintro _ ⟨z, rfl⟩
            go_wp2
            go_meet
            exact ⟨rfl, z.below⟩
      · try simp only [Bool.or_true, Bool.true_or, Bool.or_false, Bool.false_or] at M1F
        try simp only [Bool.or_true, Bool.true_or, Bool.or_false, Bool.false_or] at M2F
        try simp only [Bool.or_true, Bool.true_or, Bool.or_false, Bool.false_or] at M4T
        try simp only [Bool.or_true, Bool.true_or, Bool.or_false, Bool.false_or] at M4F
        go_wp2_with fail
        try simp only [List.append]
        refine wp_region_quietL (C := Grows Z) hmx (by kernel_rfl) (grows_draw Q1.out) ?_
        repeat (first | (with_reducible refine wpQuiet_load rfl 24 _ rfl _ rfl _ L1.out ?_; simp only [Act.put, List.setIfInBounds_toArray, List.set_cons_succ, List.set_cons_zero]) | (with_reducible refine wpQuiet_load rfl 24 _ rfl _ rfl _ L2.out ?_; simp only [Act.put, List.setIfInBounds_toArray, List.set_cons_succ, List.set_cons_zero]) | (with_reducible refine wpQuiet_load rfl 24 _ rfl _ rfl _ L3.out ?_; simp only [Act.put, List.setIfInBounds_toArray, List.set_cons_succ, List.set_cons_zero]) | (with_reducible refine wpQuiet_load rfl 24 _ rfl _ rfl _ L4.out ?_; simp only [Act.put, List.setIfInBounds_toArray, List.set_cons_succ, List.set_cons_zero]) | (with_reducible refine wpQuiet_load rfl 31 _ rfl _ rfl _ LX.out ?_; simp only [Act.put, List.setIfInBounds_toArray, List.set_cons_succ, List.set_cons_zero]) | (go_big_quiet_step (first | (with_reducible exact M1T.out _) | (with_reducible exact M1F.out _) | (with_reducible exact M2T.out _) | (with_reducible exact M2F.out _) | (with_reducible exact M4T.out _) | (with_reducible exact M4F.out _))))
        refine wpQuiet_nil ?_
        rintro _ ⟨z, rfl⟩
        go_wp2
        go_meet
        exact ⟨rfl, z.below⟩
    case rest =>
      obtain ⟨rfl, h10⟩ := hcut
      have Q2 := Lib.hid h10
      clear h10 L4 M4T M4F M1F M2T Q1
      have HZP : ∀ (e : Ending) (w' : World), e = .returned (.bool true) → Below Z.heap.size Z w' → (e = .returned (.bool true) ∧ Below W.heap.size W w') := fun e w' he hw => ⟨he, QF.out.trans (hw.mono QF.out.size)⟩
      replace HZP := Lib.hid HZP
      have lc := LC.out
      by_cases hn : 0 < n1
      · have hnI : (0 : Int) < (n1 : Int) := by omega
        rw [decide_eq_true hn] at K11
        rcases ab with _ | _
        · rcases aw with _ | _
          · go_wp2_with fail
            try simp only [List.append]
            refine wp_region_quietL (C := Grows Z) hmx (by kernel_rfl) (grows_draw Q2.out) ?_
            repeat (first | (with_reducible refine wpQuiet_load rfl 24 _ rfl _ rfl _ L1.out ?_; simp only [Act.put, List.setIfInBounds_toArray, List.set_cons_succ, List.set_cons_zero]) | (with_reducible refine wpQuiet_load rfl 24 _ rfl _ rfl _ L2.out ?_; simp only [Act.put, List.setIfInBounds_toArray, List.set_cons_succ, List.set_cons_zero]) | (with_reducible refine wpQuiet_load rfl 24 _ rfl _ rfl _ L3.out ?_; simp only [Act.put, List.setIfInBounds_toArray, List.set_cons_succ, List.set_cons_zero]) | (with_reducible refine wpQuiet_load rfl 24 _ rfl _ rfl _ L4.out ?_; simp only [Act.put, List.setIfInBounds_toArray, List.set_cons_succ, List.set_cons_zero]) | (with_reducible refine wpQuiet_load rfl 31 _ rfl _ rfl _ LX.out ?_; simp only [Act.put, List.setIfInBounds_toArray, List.set_cons_succ, List.set_cons_zero]) | (go_big_quiet_step (first | (with_reducible exact M1T.out _) | (with_reducible exact M2F.out _) | (with_reducible exact K11.out _))))
            refine wpQuiet_nil ?_
            rintro _ ⟨z, rfl⟩
            have QE := Lib.hid (QF.out.trans (z.below.mono QF.out.size))
            go_wp2_with fail
            go_ret
            exact ⟨rfl, QE.out⟩
          · have fr := FREE.out rfl rfl
            rw [fr] at M2F
            go_wp2_with fail
            try simp only [List.append]
            refine wp_region_quietL (C := Grows Z) hmx (by kernel_rfl) (grows_draw Q2.out) ?_
            repeat (first | (with_reducible refine wpQuiet_load rfl 24 _ rfl _ rfl _ L1.out ?_; simp only [Act.put, List.setIfInBounds_toArray, List.set_cons_succ, List.set_cons_zero]) | (with_reducible refine wpQuiet_load rfl 24 _ rfl _ rfl _ L2.out ?_; simp only [Act.put, List.setIfInBounds_toArray, List.set_cons_succ, List.set_cons_zero]) | (with_reducible refine wpQuiet_load rfl 24 _ rfl _ rfl _ L3.out ?_; simp only [Act.put, List.setIfInBounds_toArray, List.set_cons_succ, List.set_cons_zero]) | (with_reducible refine wpQuiet_load rfl 24 _ rfl _ rfl _ L4.out ?_; simp only [Act.put, List.setIfInBounds_toArray, List.set_cons_succ, List.set_cons_zero]) | (with_reducible refine wpQuiet_load rfl 31 _ rfl _ rfl _ LX.out ?_; simp only [Act.put, List.setIfInBounds_toArray, List.set_cons_succ, List.set_cons_zero]) | (go_big_quiet_step (first | (with_reducible exact M1T.out _) | (with_reducible exact M2F.out _) | (with_reducible exact K11.out _))))
            refine wpQuiet_nil ?_
            rintro _ ⟨z, rfl⟩
            have QE := Lib.hid (QF.out.trans (z.below.mono QF.out.size))
            go_wp2_with fail
            go_ret
            exact ⟨rfl, QE.out⟩
        · go_wp2_with fail
          try simp only [List.append]
          refine wp_region_quietL (C := Grows Z) hmx (by kernel_rfl) (grows_draw Q2.out) ?_
          repeat (first | (with_reducible refine wpQuiet_load rfl 24 _ rfl _ rfl _ L1.out ?_; simp only [Act.put, List.setIfInBounds_toArray, List.set_cons_succ, List.set_cons_zero]) | (with_reducible refine wpQuiet_load rfl 24 _ rfl _ rfl _ L2.out ?_; simp only [Act.put, List.setIfInBounds_toArray, List.set_cons_succ, List.set_cons_zero]) | (with_reducible refine wpQuiet_load rfl 24 _ rfl _ rfl _ L3.out ?_; simp only [Act.put, List.setIfInBounds_toArray, List.set_cons_succ, List.set_cons_zero]) | (with_reducible refine wpQuiet_load rfl 24 _ rfl _ rfl _ L4.out ?_; simp only [Act.put, List.setIfInBounds_toArray, List.set_cons_succ, List.set_cons_zero]) | (with_reducible refine wpQuiet_load rfl 31 _ rfl _ rfl _ LX.out ?_; simp only [Act.put, List.setIfInBounds_toArray, List.set_cons_succ, List.set_cons_zero]) | (go_big_quiet_step (first | (with_reducible exact M1T.out _) | (with_reducible exact M2F.out _) | (with_reducible exact K11.out _))))
          refine wpQuiet_nil ?_
          rintro _ ⟨z, rfl⟩
          have QE := Lib.hid (QF.out.trans (z.below.mono QF.out.size))
          go_wp2_with fail
          go_ret
          exact ⟨rfl, QE.out⟩
      · have hnI : ¬ (0 : Int) < (n1 : Int) := by omega
        rw [decide_eq_false hn] at K11
        rcases ab with _ | _
        · rcases aw with _ | _
          · go_wp2_with fail
            try simp only [List.append]
            refine wp_region_quietL (C := Grows Z) hmx (by kernel_rfl) (grows_draw Q2.out) ?_
            repeat (first | (with_reducible refine wpQuiet_load rfl 24 _ rfl _ rfl _ L1.out ?_; simp only [Act.put, List.setIfInBounds_toArray, List.set_cons_succ, List.set_cons_zero]) | (with_reducible refine wpQuiet_load rfl 24 _ rfl _ rfl _ L2.out ?_; simp only [Act.put, List.setIfInBounds_toArray, List.set_cons_succ, List.set_cons_zero]) | (with_reducible refine wpQuiet_load rfl 24 _ rfl _ rfl _ L3.out ?_; simp only [Act.put, List.setIfInBounds_toArray, List.set_cons_succ, List.set_cons_zero]) | (with_reducible refine wpQuiet_load rfl 24 _ rfl _ rfl _ L4.out ?_; simp only [Act.put, List.setIfInBounds_toArray, List.set_cons_succ, List.set_cons_zero]) | (with_reducible refine wpQuiet_load rfl 31 _ rfl _ rfl _ LX.out ?_; simp only [Act.put, List.setIfInBounds_toArray, List.set_cons_succ, List.set_cons_zero]) | (go_big_quiet_step (first | (with_reducible exact M1T.out _) | (with_reducible exact M2F.out _) | (with_reducible exact K11.out _))))
            refine wpQuiet_nil ?_
            rintro _ ⟨z, rfl⟩
            have QE := Lib.hid (QF.out.trans (z.below.mono QF.out.size))
            go_wp2_with fail
            go_ret
            exact ⟨rfl, QE.out⟩
          · have fr := FREE.out rfl rfl
            rw [fr] at M2F
            go_wp2_with fail
            try simp only [List.append]
            refine wp_region_quietL (C := Grows Z) hmx (by kernel_rfl) (grows_draw Q2.out) ?_
            repeat (first | (with_reducible refine wpQuiet_load rfl 24 _ rfl _ rfl _ L1.out ?_; simp only [Act.put, List.setIfInBounds_toArray, List.set_cons_succ, List.set_cons_zero]) | (with_reducible refine wpQuiet_load rfl 24 _ rfl _ rfl _ L2.out ?_; simp only [Act.put, List.setIfInBounds_toArray, List.set_cons_succ, List.set_cons_zero]) | (with_reducible refine wpQuiet_load rfl 24 _ rfl _ rfl _ L3.out ?_; simp only [Act.put, List.setIfInBounds_toArray, List.set_cons_succ, List.set_cons_zero]) | (with_reducible refine wpQuiet_load rfl 24 _ rfl _ rfl _ L4.out ?_; simp only [Act.put, List.setIfInBounds_toArray, List.set_cons_succ, List.set_cons_zero]) | (with_reducible refine wpQuiet_load rfl 31 _ rfl _ rfl _ LX.out ?_; simp only [Act.put, List.setIfInBounds_toArray, List.set_cons_succ, List.set_cons_zero]) | (go_big_quiet_step (first | (with_reducible exact M1T.out _) | (with_reducible exact M2F.out _) | (with_reducible exact K11.out _))))
            refine wpQuiet_nil ?_
            rintro _ ⟨z, rfl⟩
            have QE := Lib.hid (QF.out.trans (z.below.mono QF.out.size))
            go_wp2_with fail
            go_ret
            exact ⟨rfl, QE.out⟩
        · go_wp2_with fail
          try simp only [List.append]
          refine wp_region_quietL (C := Grows Z) hmx (by kernel_rfl) (grows_draw Q2.out) ?_
          repeat (first | (with_reducible refine wpQuiet_load rfl 24 _ rfl _ rfl _ L1.out ?_; simp only [Act.put, List.setIfInBounds_toArray, List.set_cons_succ, List.set_cons_zero]) | (with_reducible refine wpQuiet_load rfl 24 _ rfl _ rfl _ L2.out ?_; simp only [Act.put, List.setIfInBounds_toArray, List.set_cons_succ, List.set_cons_zero]) | (with_reducible refine wpQuiet_load rfl 24 _ rfl _ rfl _ L3.out ?_; simp only [Act.put, List.setIfInBounds_toArray, List.set_cons_succ, List.set_cons_zero]) | (with_reducible refine wpQuiet_load rfl 24 _ rfl _ rfl _ L4.out ?_; simp only [Act.put, List.setIfInBounds_toArray, List.set_cons_succ, List.set_cons_zero]) | (with_reducible refine wpQuiet_load rfl 31 _ rfl _ rfl _ LX.out ?_; simp only [Act.put, List.setIfInBounds_toArray, List.set_cons_succ, List.set_cons_zero]) | (go_big_quiet_step (first | (with_reducible exact M1T.out _) | (with_reducible exact M2F.out _) | (with_reducible exact K11.out _))))
          refine wpQuiet_nil ?_
          rintro _ ⟨z, rfl⟩
          have QE := Lib.hid (QF.out.trans (z.below.mono QF.out.size))
          go_wp2_with fail
          go_ret
          exact ⟨rfl, QE.out⟩
end Go.Proofs.Ytbkgipggblphlaa
