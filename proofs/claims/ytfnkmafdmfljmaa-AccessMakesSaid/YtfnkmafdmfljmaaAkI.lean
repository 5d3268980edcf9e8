/- Sets that fit, and what Join makes of them. Conditions: none. -/
import Derived.Test.YtfnkmafdmfljmaaAkH
namespace Go.Proofs.Ytfnkmafdmfljmaa
open Go Go.RowKit

/-- A set of at most n keys. -/
structure FitN (l : List Ky) (n : Nat) : Prop where
  up : Kup l
  may : l.any strayB = false
  len : l.length ≤ n
theorem FitN.fit {l : List Ky} {n : Nat} (h : FitN l n) (hn : n ≤ 200) : fitB l = true := by
  unfold fitB
  rw [decide_eq_true (Nat.le_trans h.len hn), (kupB_iff l).2 h.up, h.may]
  rfl
theorem any_stray {l : List Ky} : l.any strayB = false ↔ ∀ x ∈ l, strayB x = false := by
  rw [List.any_eq_false]
  exact ⟨fun h x hx => by have := h x hx; simpa using this, fun h x hx => by rw [h x hx]; decide⟩
theorem FitN.join {l m : List Ky} {a b : Nat} (h : FitN l a) (k : FitN m b) : FitN (setL (l ++ m)) (a + b) where
  up := setL_up _
  may := any_stray.2 fun x hx => by
    rcases List.mem_append.1 ((setL_mem _ _).1 hx) with h1 | h1
    · exact any_stray.1 h.may x h1
    · exact any_stray.1 k.may x h1
  len := by
    have h1 := setL_len (l ++ m)
    rw [List.length_append] at h1
    have := h.len
    have := k.len
    omega
theorem setN_fit (zs : List (Int × Int)) : FitN (setN zs) 15 where
  up := setL_up _
  may := any_stray.2 fun x hx => any_stray.1 (keysN_may zs) x ((setL_mem _ _).1 hx)
  len := Nat.le_trans (setL_len _) (keysN_len zs)
theorem joinM_fit {r s r2 s2 : List Ky} {a b c d : Nat} (h1 : FitN r a) (h2 : FitN s b) (h3 : FitN r2 c) (h4 : FitN s2 d) (h : a + c ≤ 200) (h' : b + d ≤ 200) : joinM r s r2 s2 = (setL (r ++ r2), setL (s ++ s2), 0) := by
  unfold joinM
  rw [h1.fit (by omega), h2.fit (by omega), h3.fit (by omega), h4.fit (by omega), if_pos (by rfl)]
  refine makeM_ok ?_ ?_ (Nat.le_trans (h1.join h3).len h) (Nat.le_trans (h2.join h4).len h')
  · rw [List.any_append, h1.may, h3.may]; rfl
  · rw [List.any_append, h2.may, h4.may]; rfl
theorem setL_comm (l m : List Ky) : setL (l ++ m) = setL (m ++ l) := setL_same fun x => by simp [or_comm]
theorem setL_twice {l : List Ky} (h : Kup l) : setL (l ++ l) = l := (setL_eq h (fun x => by simp)).symm
theorem setL_assoc (l m n : List Ky) : setL (setL (l ++ m) ++ n) = setL (l ++ setL (m ++ n)) := setL_same fun x => by simp [setL_mem, or_assoc]
end Go.Proofs.Ytfnkmafdmfljmaa

namespace Go.Proofs.Ytfnkmafdmfljmaa
open Go Go.RowKit
attribute [local go_sem] Oper.semAt_some Grows wide_fn

set_option maxRecDepth 100000 in
set_option maxHeartbeats 16000000 in
theorem accessJoins_ret (W : World) (x1 y1 : Value) (zx1 zy1 : List (Int × Int)) (kx1 : RawAt W x1 zx1) (ky1 : RawAt W y1 zy1) (x2 y2 : Value) (zx2 zy2 : List (Int × Int)) (kx2 : RawAt W x2 zx2) (ky2 : RawAt W y2 zy2) (x3 y3 : Value) (zx3 zy3 : List (Int × Int)) (kx3 : RawAt W x3 zx3) (ky3 : RawAt W y3 zy3) :
    Calls Try.prog 6 #[.agg #[x1, y1], .agg #[x2, y2], .agg #[x3, y3]] W fun e w' => e = .returned (.bool true) ∧ Below W.heap.size W w' := by
  have h1 := ((Has.new W 51 #[x1, y1]).alloc (.cells #[x2, y2] 51)).alloc (.cells #[x3, y3] 51)
  have h2 := (Has.new (W.alloc (.cells #[x1, y1] 51)) 51 #[x2, y2]).alloc (.cells #[x3, y3] 51)
  have h3 := Has.new ((W.alloc (.cells #[x1, y1] 51)).alloc (.cells #[x2, y2] 51)) 51 #[x3, y3]
  simp only [World.size_alloc] at h2 h3
  have q0 := (((Below.refl W.heap.size W).alloc (Nat.le_refl _) (.cells #[x1, y1] 51)).alloc (by simp) (.cells #[x2, y2] 51)).alloc (by simp; omega) (.cells #[x3, y3] 51)
  obtain ⟨ra1, rc1, rfl, _, _⟩ := id kx1
  obtain ⟨sa1, sc1, rfl, _, _⟩ := id ky1
  obtain ⟨ra2, rc2, rfl, _, _⟩ := id kx2
  obtain ⟨sa2, sc2, rfl, _, _⟩ := id ky2
  obtain ⟨ra3, rc3, rfl, _, _⟩ := id kx3
  obtain ⟨sa3, sc3, rfl, _, _⟩ := id ky3
  obtain ⟨V, hV⟩ : ∃ V, ((W.alloc (.cells #[.slice ra1 zx1.length rc1, .slice sa1 zy1.length sc1] 51)).alloc (.cells #[.slice ra2 zx2.length rc2, .slice sa2 zy2.length sc2] 51)).alloc (.cells #[.slice ra3 zx3.length rc3, .slice sa3 zy3.length sc3] 51) = V := ⟨_, rfl⟩
  rw [hV] at h1 h2 h3 q0
  have RX1 := Lib.hid (kx1.later q0)
  have RY1 := Lib.hid (ky1.later q0)
  have HB1 := Lib.hid h1
  have RX2 := Lib.hid (kx2.later q0)
  have RY2 := Lib.hid (ky2.later q0)
  have HB2 := Lib.hid h2
  have RX3 := Lib.hid (kx3.later q0)
  have RY3 := Lib.hid (ky3.later q0)
  have HB3 := Lib.hid h3
  have QW := Lib.hid q0
  have QV := Lib.hid (Below.refl V.heap.size V)
  clear q0 h1 h2 h3 kx1 ky1 kx2 ky2 kx3 ky3
  have SN1 := Lib.hid (fun X h1 h2 => sets10_any X (.slice ra1 zx1.length rc1) (.slice sa1 zy1.length sc1) zx1 zy1 h1 h2)
  have FR1 := Lib.hid (setN_fit zx1)
  have FS1 := Lib.hid (setN_fit zy1)
  have SN2 := Lib.hid (fun X h1 h2 => sets10_any X (.slice ra2 zx2.length rc2) (.slice sa2 zy2.length sc2) zx2 zy2 h1 h2)
  have FR2 := Lib.hid (setN_fit zx2)
  have FS2 := Lib.hid (setN_fit zy2)
  have SN3 := Lib.hid (fun X h1 h2 => sets10_any X (.slice ra3 zx3.length rc3) (.slice sa3 zy3.length sc3) zx3 zy3 h1 h2)
  have FR3 := Lib.hid (setN_fit zx3)
  have FS3 := Lib.hid (setN_fit zy3)
  generalize setN zx1 = r1 at *
  generalize setN zy1 = s1 at *
  generalize setN zx2 = r2 at *
  generalize setN zy2 = s2 at *
  generalize setN zx3 = r3 at *
  generalize setN zy3 = s3 at *
  obtain ⟨nx1, hnx1⟩ : ∃ n, zx1.length = n := ⟨_, rfl⟩
  obtain ⟨ny1, hny1⟩ : ∃ n, zy1.length = n := ⟨_, rfl⟩
  obtain ⟨nx2, hnx2⟩ : ∃ n, zx2.length = n := ⟨_, rfl⟩
  obtain ⟨ny2, hny2⟩ : ∃ n, zy2.length = n := ⟨_, rfl⟩
  obtain ⟨nx3, hnx3⟩ : ∃ n, zx3.length = n := ⟨_, rfl⟩
  obtain ⟨ny3, hny3⟩ : ∃ n, zy3.length = n := ⟨_, rfl⟩
  rw [hnx1, hnx2, hnx3, hny1, hny2, hny3] at hV ⊢
  rw [hnx1] at RX1 HB1 SN1
  rw [hny1] at RY1 HB1 SN1
  rw [hnx2] at RX2 HB2 SN2
  rw [hny2] at RY2 HB2 SN2
  rw [hnx3] at RX3 HB3 SN3
  rw [hny3] at RY3 HB3 SN3
  clear hnx1 hnx2 hnx3 hny1 hny2 hny3
  go_enter Try.func6, Try.ntmps6
  go_wp2_with fail
  clear hV
  have AW := Lib.hid (awake_any V)
  refine AW.out.mono ?_
  rintro _ w1 ⟨rfl, hb1⟩
  replace QV := Lib.hid (QV.out.trans hb1)
  clear AW hb1
  have c0 := (HB1.out.later QV.out).cell 0 _ rfl
  have c1 := (HB1.out.later QV.out).cell 1 _ rfl
  have CC := Lib.hid (SN1.out w1 (RX1.out.later QV.out) (RY1.out.later QV.out))
  go_wp2_with fail
  clear c0 c1
  refine CC.out.mono ?_
  rintro _ w2 ⟨x1, y1, rfl, kx1, ky1, hb⟩
  replace QV := Lib.hid (QV.out.trans (hb.mono QV.out.size))
  clear CC hb
  obtain ⟨ax1, cx1, ex1, _⟩ := kx1.shape
  obtain ⟨ay1, cy1, ey1, _⟩ := ky1.shape
  subst ex1 ey1
  have hB := Has.new w2 24 #[.slice ax1 r1.length cx1, .slice ay1 s1.length cy1]
  have hq := (Below.refl w2.heap.size w2).alloc (Nat.le_refl _) (.cells #[.slice ax1 r1.length cx1, .slice ay1 s1.length cy1] 24)
  obtain ⟨A1, hA1⟩ : ∃ A1, w2.alloc (.cells #[.slice ax1 r1.length cx1, .slice ay1 s1.length cy1] 24) = A1 := ⟨_, rfl⟩
  rw [hA1] at hB hq
  have HS1 := Lib.hid hB
  have KX1 := Lib.hid (kx1.later hq)
  have KY1 := Lib.hid (ky1.later hq)
  replace QV := Lib.hid (QV.out.trans (hq.mono QV.out.size))
  have T1 := Lib.hid (Below.refl A1.heap.size A1)
  clear hB hq kx1 ky1
  have c0 := (HB2.out.later QV.out).cell 0 _ rfl
  have c1 := (HB2.out.later QV.out).cell 1 _ rfl
  have CC := Lib.hid (SN2.out A1 (RX2.out.later QV.out) (RY2.out.later QV.out))
  go_wp2_with fail
  clear c0 c1 hA1
  refine CC.out.mono ?_
  rintro _ w3 ⟨x2, y2, rfl, kx2, ky2, hb⟩
  replace QV := Lib.hid (QV.out.trans (hb.mono QV.out.size))
  replace T1 := Lib.hid (T1.out.trans (hb.mono T1.out.size))
  clear CC hb
  obtain ⟨ax2, cx2, ex2, _⟩ := kx2.shape
  obtain ⟨ay2, cy2, ey2, _⟩ := ky2.shape
  subst ex2 ey2
  have hB := Has.new w3 24 #[.slice ax2 r2.length cx2, .slice ay2 s2.length cy2]
  have hq := (Below.refl w3.heap.size w3).alloc (Nat.le_refl _) (.cells #[.slice ax2 r2.length cx2, .slice ay2 s2.length cy2] 24)
  obtain ⟨A2, hA2⟩ : ∃ A2, w3.alloc (.cells #[.slice ax2 r2.length cx2, .slice ay2 s2.length cy2] 24) = A2 := ⟨_, rfl⟩
  rw [hA2] at hB hq
  have HS2 := Lib.hid hB
  have KX2 := Lib.hid (kx2.later hq)
  have KY2 := Lib.hid (ky2.later hq)
  replace QV := Lib.hid (QV.out.trans (hq.mono QV.out.size))
  replace T1 := Lib.hid (T1.out.trans (hq.mono T1.out.size))
  have T2 := Lib.hid (Below.refl A2.heap.size A2)
  clear hB hq kx2 ky2
  have c0 := (HB3.out.later QV.out).cell 0 _ rfl
  have c1 := (HB3.out.later QV.out).cell 1 _ rfl
  have CC := Lib.hid (SN3.out A2 (RX3.out.later QV.out) (RY3.out.later QV.out))
  go_wp2_with fail
  clear c0 c1 hA2
  refine CC.out.mono ?_
  rintro _ w4 ⟨x3, y3, rfl, kx3, ky3, hb⟩
  replace QV := Lib.hid (QV.out.trans (hb.mono QV.out.size))
  replace T1 := Lib.hid (T1.out.trans (hb.mono T1.out.size))
  replace T2 := Lib.hid (T2.out.trans (hb.mono T2.out.size))
  clear CC hb
  obtain ⟨ax3, cx3, ex3, _⟩ := kx3.shape
  obtain ⟨ay3, cy3, ey3, _⟩ := ky3.shape
  subst ex3 ey3
  have hB := Has.new w4 24 #[.slice ax3 r3.length cx3, .slice ay3 s3.length cy3]
  have hq := (Below.refl w4.heap.size w4).alloc (Nat.le_refl _) (.cells #[.slice ax3 r3.length cx3, .slice ay3 s3.length cy3] 24)
  obtain ⟨A3, hA3⟩ : ∃ A3, w4.alloc (.cells #[.slice ax3 r3.length cx3, .slice ay3 s3.length cy3] 24) = A3 := ⟨_, rfl⟩
  rw [hA3] at hB hq
  have HS3 := Lib.hid hB
  have KX3 := Lib.hid (kx3.later hq)
  have KY3 := Lib.hid (ky3.later hq)
  replace QV := Lib.hid (QV.out.trans (hq.mono QV.out.size))
  replace T1 := Lib.hid (T1.out.trans (hq.mono T1.out.size))
  replace T2 := Lib.hid (T2.out.trans (hq.mono T2.out.size))
  have T3 := Lib.hid (Below.refl A3.heap.size A3)
  clear hB hq kx3 ky3
  obtain ⟨pb, hpb⟩ : ∃ p, setL (r1 ++ r2) = p := ⟨_, rfl⟩
  obtain ⟨qb, hqb⟩ : ∃ p, setL (s1 ++ s2) = p := ⟨_, rfl⟩
  obtain ⟨pt, hpt⟩ : ∃ p, setL (r2 ++ r3) = p := ⟨_, rfl⟩
  obtain ⟨qt, hqt⟩ : ∃ p, setL (s2 ++ s3) = p := ⟨_, rfl⟩
  obtain ⟨pl, hpl⟩ : ∃ p, setL (pb ++ r3) = p := ⟨_, rfl⟩
  obtain ⟨ql, hql⟩ : ∃ p, setL (qb ++ s3) = p := ⟨_, rfl⟩
  have EB := Lib.hid (And.intro hpb hqb)
  have ET := Lib.hid (And.intro hpt hqt)
  have EL := Lib.hid (And.intro hpl hql)
  have ER := Lib.hid (show setL (r1 ++ pt) = pl ∧ setL (s1 ++ qt) = ql from by rw [← hpl, ← hql, ← hpb, ← hqb, ← hpt, ← hqt]; exact ⟨(setL_assoc _ _ _).symm, (setL_assoc _ _ _).symm⟩)
  have EC := Lib.hid (show setL (r2 ++ r1) = pb ∧ setL (s2 ++ s1) = qb from by rw [setL_comm r2, setL_comm s2]; exact ⟨hpb, hqb⟩)
  have ES := Lib.hid (And.intro (setL_twice FR1.out.up) (setL_twice FS1.out.up))
  have FR4 := Lib.hid (show FitN pb 30 from by rw [← hpb]; exact FR1.out.join FR2.out)
  have FS4 := Lib.hid (show FitN qb 30 from by rw [← hqb]; exact FS1.out.join FS2.out)
  have FR7 := Lib.hid (show FitN pt 30 from by rw [← hpt]; exact FR2.out.join FR3.out)
  have FS7 := Lib.hid (show FitN qt 30 from by rw [← hqt]; exact FS2.out.join FS3.out)
  have FR8 := Lib.hid (show FitN pl 45 from by rw [← hpl]; exact FR4.out.join FR3.out)
  have FS8 := Lib.hid (show FitN ql 45 from by rw [← hql]; exact FS4.out.join FS3.out)
  clear hpb hqb hpt hqt hpl hql
  have u0 := (HS1.out.later T1.out).cell 0 _ rfl
  have u1 := (HS1.out.later T1.out).cell 1 _ rfl
  have v0 := (HS2.out.later T2.out).cell 0 _ rfl
  have v1 := (HS2.out.later T2.out).cell 1 _ rfl
  have CC := Lib.hid (show Calls Try.prog 22 #[.agg #[.slice ax1 r1.length cx1, .slice ay1 s1.length cy1], .agg #[.slice ax2 r2.length cx2, .slice ay2 s2.length cy2]] A3 (SetsP A3 pb qb 0) from by
    have h := kjoin_any A3 _ _ r1 s1 r2 s2 (⟨_, _, rfl, KX1.out.later T1.out, KY1.out.later T1.out⟩ : SetsAt _ (.agg #[.slice ax1 r1.length cx1, .slice ay1 s1.length cy1]) r1 s1) (⟨_, _, rfl, KX2.out.later T2.out, KY2.out.later T2.out⟩ : SetsAt _ (.agg #[.slice ax2 r2.length cx2, .slice ay2 s2.length cy2]) r2 s2)
    rw [joinM_fit FR1.out FS1.out FR2.out FS2.out (by decide) (by decide)] at h
    rw [EB.out.1, EB.out.2] at h
    exact h)
  go_wp2_with fail
  clear u0 u1 v0 v1 hA3
  refine CC.out.mono ?_
  rintro _ w5 ⟨x4, y4, rfl, kx4, ky4, hb⟩
  replace QV := Lib.hid (QV.out.trans (hb.mono QV.out.size))
  replace T1 := Lib.hid (T1.out.trans (hb.mono T1.out.size))
  replace T2 := Lib.hid (T2.out.trans (hb.mono T2.out.size))
  replace T3 := Lib.hid (T3.out.trans (hb.mono T3.out.size))
  clear CC hb
  obtain ⟨ax4, cx4, ex4, _⟩ := kx4.shape
  obtain ⟨ay4, cy4, ey4, _⟩ := ky4.shape
  subst ex4 ey4
  have hB := Has.new w5 24 #[.slice ax4 pb.length cx4, .slice ay4 qb.length cy4]
  have hq := (Below.refl w5.heap.size w5).alloc (Nat.le_refl _) (.cells #[.slice ax4 pb.length cx4, .slice ay4 qb.length cy4] 24)
  obtain ⟨A4, hA4⟩ : ∃ A4, w5.alloc (.cells #[.slice ax4 pb.length cx4, .slice ay4 qb.length cy4] 24) = A4 := ⟨_, rfl⟩
  rw [hA4] at hB hq
  have HS4 := Lib.hid hB
  have KX4 := Lib.hid (kx4.later hq)
  have KY4 := Lib.hid (ky4.later hq)
  replace QV := Lib.hid (QV.out.trans (hq.mono QV.out.size))
  replace T1 := Lib.hid (T1.out.trans (hq.mono T1.out.size))
  replace T2 := Lib.hid (T2.out.trans (hq.mono T2.out.size))
  replace T3 := Lib.hid (T3.out.trans (hq.mono T3.out.size))
  have T4 := Lib.hid (Below.refl A4.heap.size A4)
  clear hB hq kx4 ky4
  have u0 := (HS2.out.later T2.out).cell 0 _ rfl
  have u1 := (HS2.out.later T2.out).cell 1 _ rfl
  have v0 := (HS1.out.later T1.out).cell 0 _ rfl
  have v1 := (HS1.out.later T1.out).cell 1 _ rfl
  have CC := Lib.hid (show Calls Try.prog 22 #[.agg #[.slice ax2 r2.length cx2, .slice ay2 s2.length cy2], .agg #[.slice ax1 r1.length cx1, .slice ay1 s1.length cy1]] A4 (SetsP A4 pb qb 0) from by
    have h := kjoin_any A4 _ _ r2 s2 r1 s1 (⟨_, _, rfl, KX2.out.later T2.out, KY2.out.later T2.out⟩ : SetsAt _ (.agg #[.slice ax2 r2.length cx2, .slice ay2 s2.length cy2]) r2 s2) (⟨_, _, rfl, KX1.out.later T1.out, KY1.out.later T1.out⟩ : SetsAt _ (.agg #[.slice ax1 r1.length cx1, .slice ay1 s1.length cy1]) r1 s1)
    rw [joinM_fit FR2.out FS2.out FR1.out FS1.out (by decide) (by decide)] at h
    rw [EC.out.1, EC.out.2] at h
    exact h)
  go_wp2_with fail
  clear u0 u1 v0 v1 hA4
  refine CC.out.mono ?_
  rintro _ w6 ⟨x5, y5, rfl, kx5, ky5, hb⟩
  replace QV := Lib.hid (QV.out.trans (hb.mono QV.out.size))
  replace T1 := Lib.hid (T1.out.trans (hb.mono T1.out.size))
  replace T2 := Lib.hid (T2.out.trans (hb.mono T2.out.size))
  replace T3 := Lib.hid (T3.out.trans (hb.mono T3.out.size))
  replace T4 := Lib.hid (T4.out.trans (hb.mono T4.out.size))
  clear CC hb
  obtain ⟨ax5, cx5, ex5, _⟩ := kx5.shape
  obtain ⟨ay5, cy5, ey5, _⟩ := ky5.shape
  subst ex5 ey5
  have hB := Has.new w6 24 #[.slice ax5 pb.length cx5, .slice ay5 qb.length cy5]
  have hq := (Below.refl w6.heap.size w6).alloc (Nat.le_refl _) (.cells #[.slice ax5 pb.length cx5, .slice ay5 qb.length cy5] 24)
  obtain ⟨A5, hA5⟩ : ∃ A5, w6.alloc (.cells #[.slice ax5 pb.length cx5, .slice ay5 qb.length cy5] 24) = A5 := ⟨_, rfl⟩
  rw [hA5] at hB hq
  have HS5 := Lib.hid hB
  have KX5 := Lib.hid (kx5.later hq)
  have KY5 := Lib.hid (ky5.later hq)
  replace QV := Lib.hid (QV.out.trans (hq.mono QV.out.size))
  replace T1 := Lib.hid (T1.out.trans (hq.mono T1.out.size))
  replace T2 := Lib.hid (T2.out.trans (hq.mono T2.out.size))
  replace T3 := Lib.hid (T3.out.trans (hq.mono T3.out.size))
  replace T4 := Lib.hid (T4.out.trans (hq.mono T4.out.size))
  have T5 := Lib.hid (Below.refl A5.heap.size A5)
  clear hB hq kx5 ky5
  have u0 := (HS1.out.later T1.out).cell 0 _ rfl
  have u1 := (HS1.out.later T1.out).cell 1 _ rfl
  have CC := Lib.hid (show Calls Try.prog 22 #[.agg #[.slice ax1 r1.length cx1, .slice ay1 s1.length cy1], .agg #[.slice ax1 r1.length cx1, .slice ay1 s1.length cy1]] A5 (SetsP A5 r1 s1 0) from by
    have h := kjoin_any A5 _ _ r1 s1 r1 s1 (⟨_, _, rfl, KX1.out.later T1.out, KY1.out.later T1.out⟩ : SetsAt _ (.agg #[.slice ax1 r1.length cx1, .slice ay1 s1.length cy1]) r1 s1) (⟨_, _, rfl, KX1.out.later T1.out, KY1.out.later T1.out⟩ : SetsAt _ (.agg #[.slice ax1 r1.length cx1, .slice ay1 s1.length cy1]) r1 s1)
    rw [joinM_fit FR1.out FS1.out FR1.out FS1.out (by decide) (by decide)] at h
    rw [ES.out.1, ES.out.2] at h
    exact h)
  go_wp2_with fail
  clear u0 u1 hA5
  refine CC.out.mono ?_
  rintro _ w7 ⟨x6, y6, rfl, kx6, ky6, hb⟩
  replace QV := Lib.hid (QV.out.trans (hb.mono QV.out.size))
  replace T1 := Lib.hid (T1.out.trans (hb.mono T1.out.size))
  replace T2 := Lib.hid (T2.out.trans (hb.mono T2.out.size))
  replace T3 := Lib.hid (T3.out.trans (hb.mono T3.out.size))
  replace T4 := Lib.hid (T4.out.trans (hb.mono T4.out.size))
  replace T5 := Lib.hid (T5.out.trans (hb.mono T5.out.size))
  clear CC hb
  obtain ⟨ax6, cx6, ex6, _⟩ := kx6.shape
  obtain ⟨ay6, cy6, ey6, _⟩ := ky6.shape
  subst ex6 ey6
  have hB := Has.new w7 24 #[.slice ax6 r1.length cx6, .slice ay6 s1.length cy6]
  have hq := (Below.refl w7.heap.size w7).alloc (Nat.le_refl _) (.cells #[.slice ax6 r1.length cx6, .slice ay6 s1.length cy6] 24)
  obtain ⟨A6, hA6⟩ : ∃ A6, w7.alloc (.cells #[.slice ax6 r1.length cx6, .slice ay6 s1.length cy6] 24) = A6 := ⟨_, rfl⟩
  rw [hA6] at hB hq
  have HS6 := Lib.hid hB
  have KX6 := Lib.hid (kx6.later hq)
  have KY6 := Lib.hid (ky6.later hq)
  replace QV := Lib.hid (QV.out.trans (hq.mono QV.out.size))
  replace T1 := Lib.hid (T1.out.trans (hq.mono T1.out.size))
  replace T2 := Lib.hid (T2.out.trans (hq.mono T2.out.size))
  replace T3 := Lib.hid (T3.out.trans (hq.mono T3.out.size))
  replace T4 := Lib.hid (T4.out.trans (hq.mono T4.out.size))
  replace T5 := Lib.hid (T5.out.trans (hq.mono T5.out.size))
  have T6 := Lib.hid (Below.refl A6.heap.size A6)
  clear hB hq kx6 ky6
  have u0 := (HS2.out.later T2.out).cell 0 _ rfl
  have u1 := (HS2.out.later T2.out).cell 1 _ rfl
  have v0 := (HS3.out.later T3.out).cell 0 _ rfl
  have v1 := (HS3.out.later T3.out).cell 1 _ rfl
  have CC := Lib.hid (show Calls Try.prog 22 #[.agg #[.slice ax2 r2.length cx2, .slice ay2 s2.length cy2], .agg #[.slice ax3 r3.length cx3, .slice ay3 s3.length cy3]] A6 (SetsP A6 pt qt 0) from by
    have h := kjoin_any A6 _ _ r2 s2 r3 s3 (⟨_, _, rfl, KX2.out.later T2.out, KY2.out.later T2.out⟩ : SetsAt _ (.agg #[.slice ax2 r2.length cx2, .slice ay2 s2.length cy2]) r2 s2) (⟨_, _, rfl, KX3.out.later T3.out, KY3.out.later T3.out⟩ : SetsAt _ (.agg #[.slice ax3 r3.length cx3, .slice ay3 s3.length cy3]) r3 s3)
    rw [joinM_fit FR2.out FS2.out FR3.out FS3.out (by decide) (by decide)] at h
    rw [ET.out.1, ET.out.2] at h
    exact h)
  go_wp2_with fail
  clear u0 u1 v0 v1 hA6
  refine CC.out.mono ?_
  rintro _ w8 ⟨x7, y7, rfl, kx7, ky7, hb⟩
  replace QV := Lib.hid (QV.out.trans (hb.mono QV.out.size))
  replace T1 := Lib.hid (T1.out.trans (hb.mono T1.out.size))
  replace T2 := Lib.hid (T2.out.trans (hb.mono T2.out.size))
  replace T3 := Lib.hid (T3.out.trans (hb.mono T3.out.size))
  replace T4 := Lib.hid (T4.out.trans (hb.mono T4.out.size))
  replace T5 := Lib.hid (T5.out.trans (hb.mono T5.out.size))
  replace T6 := Lib.hid (T6.out.trans (hb.mono T6.out.size))
  clear CC hb
  obtain ⟨ax7, cx7, ex7, _⟩ := kx7.shape
  obtain ⟨ay7, cy7, ey7, _⟩ := ky7.shape
  subst ex7 ey7
  have hB := Has.new w8 24 #[.slice ax7 pt.length cx7, .slice ay7 qt.length cy7]
  have hq := (Below.refl w8.heap.size w8).alloc (Nat.le_refl _) (.cells #[.slice ax7 pt.length cx7, .slice ay7 qt.length cy7] 24)
  obtain ⟨A7, hA7⟩ : ∃ A7, w8.alloc (.cells #[.slice ax7 pt.length cx7, .slice ay7 qt.length cy7] 24) = A7 := ⟨_, rfl⟩
  rw [hA7] at hB hq
  have HS7 := Lib.hid hB
  have KX7 := Lib.hid (kx7.later hq)
  have KY7 := Lib.hid (ky7.later hq)
  replace QV := Lib.hid (QV.out.trans (hq.mono QV.out.size))
  replace T1 := Lib.hid (T1.out.trans (hq.mono T1.out.size))
  replace T2 := Lib.hid (T2.out.trans (hq.mono T2.out.size))
  replace T3 := Lib.hid (T3.out.trans (hq.mono T3.out.size))
  replace T4 := Lib.hid (T4.out.trans (hq.mono T4.out.size))
  replace T5 := Lib.hid (T5.out.trans (hq.mono T5.out.size))
  replace T6 := Lib.hid (T6.out.trans (hq.mono T6.out.size))
  have T7 := Lib.hid (Below.refl A7.heap.size A7)
  clear hB hq kx7 ky7
  have u0 := (HS4.out.later T4.out).cell 0 _ rfl
  have u1 := (HS4.out.later T4.out).cell 1 _ rfl
  have v0 := (HS3.out.later T3.out).cell 0 _ rfl
  have v1 := (HS3.out.later T3.out).cell 1 _ rfl
  have CC := Lib.hid (show Calls Try.prog 22 #[.agg #[.slice ax4 pb.length cx4, .slice ay4 qb.length cy4], .agg #[.slice ax3 r3.length cx3, .slice ay3 s3.length cy3]] A7 (SetsP A7 pl ql 0) from by
    have h := kjoin_any A7 _ _ pb qb r3 s3 (⟨_, _, rfl, KX4.out.later T4.out, KY4.out.later T4.out⟩ : SetsAt _ (.agg #[.slice ax4 pb.length cx4, .slice ay4 qb.length cy4]) pb qb) (⟨_, _, rfl, KX3.out.later T3.out, KY3.out.later T3.out⟩ : SetsAt _ (.agg #[.slice ax3 r3.length cx3, .slice ay3 s3.length cy3]) r3 s3)
    rw [joinM_fit FR4.out FS4.out FR3.out FS3.out (by decide) (by decide)] at h
    rw [EL.out.1, EL.out.2] at h
    exact h)
  go_wp2_with fail
  clear u0 u1 v0 v1 hA7
  refine CC.out.mono ?_
  rintro _ w9 ⟨x8, y8, rfl, kx8, ky8, hb⟩
  replace QV := Lib.hid (QV.out.trans (hb.mono QV.out.size))
  replace T1 := Lib.hid (T1.out.trans (hb.mono T1.out.size))
  replace T2 := Lib.hid (T2.out.trans (hb.mono T2.out.size))
  replace T3 := Lib.hid (T3.out.trans (hb.mono T3.out.size))
  replace T4 := Lib.hid (T4.out.trans (hb.mono T4.out.size))
  replace T5 := Lib.hid (T5.out.trans (hb.mono T5.out.size))
  replace T6 := Lib.hid (T6.out.trans (hb.mono T6.out.size))
  replace T7 := Lib.hid (T7.out.trans (hb.mono T7.out.size))
  clear CC hb
  obtain ⟨ax8, cx8, ex8, _⟩ := kx8.shape
  obtain ⟨ay8, cy8, ey8, _⟩ := ky8.shape
  subst ex8 ey8
  have hB := Has.new w9 24 #[.slice ax8 pl.length cx8, .slice ay8 ql.length cy8]
  have hq := (Below.refl w9.heap.size w9).alloc (Nat.le_refl _) (.cells #[.slice ax8 pl.length cx8, .slice ay8 ql.length cy8] 24)
  obtain ⟨A8, hA8⟩ : ∃ A8, w9.alloc (.cells #[.slice ax8 pl.length cx8, .slice ay8 ql.length cy8] 24) = A8 := ⟨_, rfl⟩
  rw [hA8] at hB hq
  have HS8 := Lib.hid hB
  have KX8 := Lib.hid (kx8.later hq)
  have KY8 := Lib.hid (ky8.later hq)
  replace QV := Lib.hid (QV.out.trans (hq.mono QV.out.size))
  replace T1 := Lib.hid (T1.out.trans (hq.mono T1.out.size))
  replace T2 := Lib.hid (T2.out.trans (hq.mono T2.out.size))
  replace T3 := Lib.hid (T3.out.trans (hq.mono T3.out.size))
  replace T4 := Lib.hid (T4.out.trans (hq.mono T4.out.size))
  replace T5 := Lib.hid (T5.out.trans (hq.mono T5.out.size))
  replace T6 := Lib.hid (T6.out.trans (hq.mono T6.out.size))
  replace T7 := Lib.hid (T7.out.trans (hq.mono T7.out.size))
  have T8 := Lib.hid (Below.refl A8.heap.size A8)
  clear hB hq kx8 ky8
  have u0 := (HS1.out.later T1.out).cell 0 _ rfl
  have u1 := (HS1.out.later T1.out).cell 1 _ rfl
  have v0 := (HS7.out.later T7.out).cell 0 _ rfl
  have v1 := (HS7.out.later T7.out).cell 1 _ rfl
  have CC := Lib.hid (show Calls Try.prog 22 #[.agg #[.slice ax1 r1.length cx1, .slice ay1 s1.length cy1], .agg #[.slice ax7 pt.length cx7, .slice ay7 qt.length cy7]] A8 (SetsP A8 pl ql 0) from by
    have h := kjoin_any A8 _ _ r1 s1 pt qt (⟨_, _, rfl, KX1.out.later T1.out, KY1.out.later T1.out⟩ : SetsAt _ (.agg #[.slice ax1 r1.length cx1, .slice ay1 s1.length cy1]) r1 s1) (⟨_, _, rfl, KX7.out.later T7.out, KY7.out.later T7.out⟩ : SetsAt _ (.agg #[.slice ax7 pt.length cx7, .slice ay7 qt.length cy7]) pt qt)
    rw [joinM_fit FR1.out FS1.out FR7.out FS7.out (by decide) (by decide)] at h
    rw [ER.out.1, ER.out.2] at h
    exact h)
  go_wp2_with fail
  clear u0 u1 v0 v1 hA8
  refine CC.out.mono ?_
  rintro _ w10 ⟨x9, y9, rfl, kx9, ky9, hb⟩
  replace QV := Lib.hid (QV.out.trans (hb.mono QV.out.size))
  replace T1 := Lib.hid (T1.out.trans (hb.mono T1.out.size))
  replace T2 := Lib.hid (T2.out.trans (hb.mono T2.out.size))
  replace T3 := Lib.hid (T3.out.trans (hb.mono T3.out.size))
  replace T4 := Lib.hid (T4.out.trans (hb.mono T4.out.size))
  replace T5 := Lib.hid (T5.out.trans (hb.mono T5.out.size))
  replace T6 := Lib.hid (T6.out.trans (hb.mono T6.out.size))
  replace T7 := Lib.hid (T7.out.trans (hb.mono T7.out.size))
  replace T8 := Lib.hid (T8.out.trans (hb.mono T8.out.size))
  clear CC hb
  obtain ⟨ax9, cx9, ex9, _⟩ := kx9.shape
  obtain ⟨ay9, cy9, ey9, _⟩ := ky9.shape
  subst ex9 ey9
  have hB := Has.new w10 24 #[.slice ax9 pl.length cx9, .slice ay9 ql.length cy9]
  have hq := (Below.refl w10.heap.size w10).alloc (Nat.le_refl _) (.cells #[.slice ax9 pl.length cx9, .slice ay9 ql.length cy9] 24)
  obtain ⟨A9, hA9⟩ : ∃ A9, w10.alloc (.cells #[.slice ax9 pl.length cx9, .slice ay9 ql.length cy9] 24) = A9 := ⟨_, rfl⟩
  rw [hA9] at hB hq
  have HS9 := Lib.hid hB
  have KX9 := Lib.hid (kx9.later hq)
  have KY9 := Lib.hid (ky9.later hq)
  replace QV := Lib.hid (QV.out.trans (hq.mono QV.out.size))
  replace T1 := Lib.hid (T1.out.trans (hq.mono T1.out.size))
  replace T2 := Lib.hid (T2.out.trans (hq.mono T2.out.size))
  replace T3 := Lib.hid (T3.out.trans (hq.mono T3.out.size))
  replace T4 := Lib.hid (T4.out.trans (hq.mono T4.out.size))
  replace T5 := Lib.hid (T5.out.trans (hq.mono T5.out.size))
  replace T6 := Lib.hid (T6.out.trans (hq.mono T6.out.size))
  replace T7 := Lib.hid (T7.out.trans (hq.mono T7.out.size))
  replace T8 := Lib.hid (T8.out.trans (hq.mono T8.out.size))
  have T9 := Lib.hid (Below.refl A9.heap.size A9)
  clear hB hq kx9 ky9
  have u0 := (HS4.out.later T4.out).cell 0 _ rfl
  have u1 := (HS4.out.later T4.out).cell 1 _ rfl
  have v0 := (HS5.out.later T5.out).cell 0 _ rfl
  have v1 := (HS5.out.later T5.out).cell 1 _ rfl
  have CC := Lib.hid (show Calls Try.prog 17 #[.agg #[.slice ax4 pb.length cx4, .slice ay4 qb.length cy4], .agg #[.slice ax5 pb.length cx5, .slice ay5 qb.length cy5]] A9 (fun e w' => e = .returned (.bool true) ∧ Below A9.heap.size A9 w') from by
    have h := ksets_any A9 _ _ pb qb pb qb (⟨_, _, rfl, KX4.out.later T4.out, KY4.out.later T4.out⟩ : SetsAt _ (.agg #[.slice ax4 pb.length cx4, .slice ay4 qb.length cy4]) pb qb) (⟨_, _, rfl, KX5.out.later T5.out, KY5.out.later T5.out⟩ : SetsAt _ (.agg #[.slice ax5 pb.length cx5, .slice ay5 qb.length cy5]) pb qb)
    rw [decide_eq_true rfl, decide_eq_true rfl] at h
    exact h)
  go_wp2_with fail
  clear u0 u1 v0 v1 hA9
  refine CC.out.mono ?_
  rintro _ w11 ⟨rfl, hb⟩
  replace QV := Lib.hid (QV.out.trans (hb.mono QV.out.size))
  replace T1 := Lib.hid (T1.out.trans (hb.mono T1.out.size))
  replace T2 := Lib.hid (T2.out.trans (hb.mono T2.out.size))
  replace T3 := Lib.hid (T3.out.trans (hb.mono T3.out.size))
  replace T4 := Lib.hid (T4.out.trans (hb.mono T4.out.size))
  replace T5 := Lib.hid (T5.out.trans (hb.mono T5.out.size))
  replace T6 := Lib.hid (T6.out.trans (hb.mono T6.out.size))
  replace T7 := Lib.hid (T7.out.trans (hb.mono T7.out.size))
  replace T8 := Lib.hid (T8.out.trans (hb.mono T8.out.size))
  replace T9 := Lib.hid (T9.out.trans (hb.mono T9.out.size))
  clear CC hb
  have u0 := (HS6.out.later T6.out).cell 0 _ rfl
  have u1 := (HS6.out.later T6.out).cell 1 _ rfl
  have v0 := (HS1.out.later T1.out).cell 0 _ rfl
  have v1 := (HS1.out.later T1.out).cell 1 _ rfl
  have CC := Lib.hid (show Calls Try.prog 17 #[.agg #[.slice ax6 r1.length cx6, .slice ay6 s1.length cy6], .agg #[.slice ax1 r1.length cx1, .slice ay1 s1.length cy1]] w11 (fun e w' => e = .returned (.bool true) ∧ Below w11.heap.size w11 w') from by
    have h := ksets_any w11 _ _ r1 s1 r1 s1 (⟨_, _, rfl, KX6.out.later T6.out, KY6.out.later T6.out⟩ : SetsAt _ (.agg #[.slice ax6 r1.length cx6, .slice ay6 s1.length cy6]) r1 s1) (⟨_, _, rfl, KX1.out.later T1.out, KY1.out.later T1.out⟩ : SetsAt _ (.agg #[.slice ax1 r1.length cx1, .slice ay1 s1.length cy1]) r1 s1)
    rw [decide_eq_true rfl, decide_eq_true rfl] at h
    exact h)
  go_wp2_with fail
  clear u0 u1 v0 v1
  refine CC.out.mono ?_
  rintro _ w12 ⟨rfl, hb⟩
  replace QV := Lib.hid (QV.out.trans (hb.mono QV.out.size))
  replace T1 := Lib.hid (T1.out.trans (hb.mono T1.out.size))
  replace T2 := Lib.hid (T2.out.trans (hb.mono T2.out.size))
  replace T3 := Lib.hid (T3.out.trans (hb.mono T3.out.size))
  replace T4 := Lib.hid (T4.out.trans (hb.mono T4.out.size))
  replace T5 := Lib.hid (T5.out.trans (hb.mono T5.out.size))
  replace T6 := Lib.hid (T6.out.trans (hb.mono T6.out.size))
  replace T7 := Lib.hid (T7.out.trans (hb.mono T7.out.size))
  replace T8 := Lib.hid (T8.out.trans (hb.mono T8.out.size))
  replace T9 := Lib.hid (T9.out.trans (hb.mono T9.out.size))
  clear CC hb
  have u0 := (HS8.out.later T8.out).cell 0 _ rfl
  have u1 := (HS8.out.later T8.out).cell 1 _ rfl
  have v0 := (HS9.out.later T9.out).cell 0 _ rfl
  have v1 := (HS9.out.later T9.out).cell 1 _ rfl
  have CC := Lib.hid (show Calls Try.prog 17 #[.agg #[.slice ax8 pl.length cx8, .slice ay8 ql.length cy8], .agg #[.slice ax9 pl.length cx9, .slice ay9 ql.length cy9]] w12 (fun e w' => e = .returned (.bool true) ∧ Below w12.heap.size w12 w') from by
    have h := ksets_any w12 _ _ pl ql pl ql (⟨_, _, rfl, KX8.out.later T8.out, KY8.out.later T8.out⟩ : SetsAt _ (.agg #[.slice ax8 pl.length cx8, .slice ay8 ql.length cy8]) pl ql) (⟨_, _, rfl, KX9.out.later T9.out, KY9.out.later T9.out⟩ : SetsAt _ (.agg #[.slice ax9 pl.length cx9, .slice ay9 ql.length cy9]) pl ql)
    rw [decide_eq_true rfl, decide_eq_true rfl] at h
    exact h)
  go_wp2_with fail
  clear u0 u1 v0 v1
  refine CC.out.mono ?_
  rintro _ w13 ⟨rfl, hb⟩
  replace QV := Lib.hid (QV.out.trans (hb.mono QV.out.size))
  replace T1 := Lib.hid (T1.out.trans (hb.mono T1.out.size))
  replace T2 := Lib.hid (T2.out.trans (hb.mono T2.out.size))
  replace T3 := Lib.hid (T3.out.trans (hb.mono T3.out.size))
  replace T4 := Lib.hid (T4.out.trans (hb.mono T4.out.size))
  replace T5 := Lib.hid (T5.out.trans (hb.mono T5.out.size))
  replace T6 := Lib.hid (T6.out.trans (hb.mono T6.out.size))
  replace T7 := Lib.hid (T7.out.trans (hb.mono T7.out.size))
  replace T8 := Lib.hid (T8.out.trans (hb.mono T8.out.size))
  replace T9 := Lib.hid (T9.out.trans (hb.mono T9.out.size))
  clear CC hb
  have u0 := (HS8.out.later T8.out).cell 0 _ rfl
  have u1 := (HS8.out.later T8.out).cell 1 _ rfl
  have CC := Lib.hid (show Calls Try.prog 18 #[.agg #[.slice ax8 pl.length cx8, .slice ay8 ql.length cy8]] w13 (fun e w' => e = .returned (.bool true) ∧ Below w13.heap.size w13 w') from by
    have h := kright_any w13 _ pl ql (⟨_, _, rfl, KX8.out.later T8.out, KY8.out.later T8.out⟩ : SetsAt _ (.agg #[.slice ax8 pl.length cx8, .slice ay8 ql.length cy8]) pl ql)
    rw [FR8.out.fit (by decide), FS8.out.fit (by decide)] at h
    exact h)
  go_wp2_with fail
  clear u0 u1
  refine CC.out.mono ?_
  rintro _ w14 ⟨rfl, hb⟩
  replace QV := Lib.hid (QV.out.trans (hb.mono QV.out.size))
  replace T1 := Lib.hid (T1.out.trans (hb.mono T1.out.size))
  replace T2 := Lib.hid (T2.out.trans (hb.mono T2.out.size))
  replace T3 := Lib.hid (T3.out.trans (hb.mono T3.out.size))
  replace T4 := Lib.hid (T4.out.trans (hb.mono T4.out.size))
  replace T5 := Lib.hid (T5.out.trans (hb.mono T5.out.size))
  replace T6 := Lib.hid (T6.out.trans (hb.mono T6.out.size))
  replace T7 := Lib.hid (T7.out.trans (hb.mono T7.out.size))
  replace T8 := Lib.hid (T8.out.trans (hb.mono T8.out.size))
  replace T9 := Lib.hid (T9.out.trans (hb.mono T9.out.size))
  clear CC hb
  have QF := Lib.hid (QW.out.trans (QV.out.mono QW.out.size))
  go_wp2_with fail
  go_ret
  exact ⟨rfl, QF.out⟩
end Go.Proofs.Ytfnkmafdmfljmaa
