/- What AccessMakes makes. Conditions: none. -/
import Derived.Test.YtfnkmafdmfljmaaAkI
namespace Go.Proofs.Ytfnkmafdmfljmaa
open Go Go.RowKit
attribute [local go_sem] Oper.semAt_some Grows wide_fn

theorem makes_one {r w : List Ky} (hr : r.any strayB = false) (hw : w.any strayB = false) (lr : r.length ≤ 15) (lw : w.length ≤ 15) : makeM r w = (setL r, setL w, 0) :=
  makeM_ok hr hw (by have := setL_len r; omega) (by have := setL_len w; omega)
theorem makes_two {r w : List Ky} (k : Nat) (hr : r.any strayB = false) (hw : w.any strayB = false) (lr : r.length ≤ 15) (lw : w.length ≤ 15) : makeM (r.drop k ++ r) (w ++ w) = (setL r, setL w, 0) := by
  have e1 : setL (r.drop k ++ r) = setL r := setL_same fun x => by
    rw [List.mem_append]
    exact ⟨fun h => h.elim List.mem_of_mem_drop id, .inr⟩
  have e2 : setL (w ++ w) = setL w := setL_same fun x => by simp
  rw [← e1, ← e2]
  refine makeM_ok ?_ ?_ (by rw [e1]; have := setL_len r; omega) (by rw [e2]; have := setL_len w; omega)
  · refine any_stray.2 fun x hx => any_stray.1 hr x ?_
    rcases List.mem_append.1 hx with h | h
    · exact List.mem_of_mem_drop h
    · exact h
  · rw [List.any_append, hw]; rfl
/-- Is a key among some? -/
def amidB (x : Ky) (l : List Ky) : Bool := l.any fun y => decide (y = x)
theorem amid_set (x : Ky) (l : List Ky) : ((setL l).any fun z => decide (x = z)) = amidB x l := by
  unfold amidB
  rw [Bool.eq_iff_iff, List.any_eq_true, List.any_eq_true]
  constructor
  · rintro ⟨z, h, e⟩
    exact ⟨z, (setL_mem _ _).1 h, by simpa using (of_decide_eq_true e).symm⟩
  · rintro ⟨z, h, e⟩
    exact ⟨z, (setL_mem _ _).2 h, by simpa using (of_decide_eq_true e).symm⟩
theorem amid_next {x y : Ky} {l : List Ky} {k : Nat} (h : l[k]? = some y) : amidB x (l.take (k + 1)) = (amidB x (l.take k) || decide (y = x)) := by
  unfold amidB
  rw [List.take_add_one, h, List.any_append]
  simp
/-- Those behind the first k. -/
def fromK (a : Option Addr) (cap k : Nat) : Option Addr := if cap = k then a else a.map (·.add (k * 25))
theorem KeysAt.from {W : World} {a : Option Addr} {n cap : Nat} {l : List Ky} (h : KeysAt W (.slice a n cap) l) (k : Nat) (hk : k ≤ n) : KeysAt W (.slice (fromK a cap k) (n - k) (cap - k)) (l.drop k) := by
  obtain ⟨a', cap', h1, h2, h3, h4, h5⟩ := h
  injection h1 with e1 e2 e3
  subst e1 e3
  refine ⟨_, _, by rw [List.length_drop, e2], by rw [List.length_drop]; omega, by omega, fun x hx => h4 x (List.mem_of_mem_drop hx), fun i x hx => ?_⟩
  rw [List.getElem?_drop] at hx
  have hlt := (List.getElem?_eq_some_iff.1 hx).1
  obtain ⟨b, e, hc⟩ := h5 (k + i) x hx
  refine ⟨b.add (k * 25), ?_, fun j u hj => ?_⟩
  · unfold fromK
    rw [if_neg (by omega), e]; rfl
  · have h := hc j u hj
    rw [Addr.add_add] at h
    rw [Addr.add_add, Addr.add_add, show k * 25 + (i * 25 + j) = (k + i) * 25 + j by omega]
    exact h
theorem run_from (y : World) (a : Option Addr) (N cap k : Nat) (hk : k ≤ N) (hc : N ≤ cap) (hm : k ≤ 4611686018427387903) : (Instr.sliceAt 22 (.slice a N cap) (some (.int .i64 (k : Int))) none none).run Try.prog y = .ok (.slice (fromK a cap k) (N - k) (cap - k)) y := by
  have hu := run_underlying Try.underlying22 (w := y)
  have hz := Try.sizeOf31
  unfold fromK
  by_cases hcc : cap = k
  · subst hcc
    simp [Instr.sliceAt, Instr.slice, Instr.sliceBounds, Instr.sliceBound, asIntOf, hu, hz, hk]
  · simp [Instr.sliceAt, Instr.slice, Instr.sliceBounds, Instr.sliceBound, asIntOf, hu, hz, hk, hcc]
theorem wpList_slice_known {ops : Array Oper} {rest : List Oper} {o : Oper} {a : Act} {w : World} {Q : Exit → Act → World → Prop} (hg : o.guard = none) (x l : Operand) (ho : o.op = .slice 22 x (some l) none none) (v lv sv : Value) (hx : a.eval x = v) (hl : a.eval l = lv) (hr : (Instr.sliceAt 22 v (some lv) none none).run Try.prog w = .ok sv w)
    (h : wpList Try.prog ops Q rest (a.put o.dst sv) w) : wpList Try.prog ops Q (o :: rest) a w := by
  refine wpList_plain hg fun K hK' => ?_
  unfold Oper.wp execOp
  simp only [ho, Sem.run_bind, Sem.run_pure, Result.andThen_ok, Option.map_some, Option.map_none, hx, hl, hr]
  exact hK' _ _ h
end Go.Proofs.Ytfnkmafdmfljmaa

namespace Go.Proofs.Ytfnkmafdmfljmaa
open Go Go.RowKit
attribute [local go_sem] Oper.semAt_some Grows wide_fn

set_option maxRecDepth 100000 in
set_option maxHeartbeats 16000000 in
theorem accessMakes_ret (W : World) (x1 : Value) (z1 : List (Int × Int)) (k1 : RawAt W x1 z1) (x2 : Value) (z2 : List (Int × Int)) (k2 : RawAt W x2 z2) (at_ : Int) (hat : I64 at_) (p q : Int) (hp : I64 p) (hq : I64 q) :
    Calls Try.prog 7 #[x1, x2, .int .i64 at_, .agg #[.int .i64 p, .int .i64 q]] W fun e w' => e = .returned (.bool true) ∧ Below W.heap.size W w' := by
  have hmx : Try.prog.follows .mixedOrders = true := by kernel_rfl
  have h1 := Has.new W 52 #[.int .i64 p, .int .i64 q]
  have q0 := (Below.refl W.heap.size W).alloc (Nat.le_refl _) (.cells #[.int .i64 p, .int .i64 q] 52)
  obtain ⟨V, hV⟩ : ∃ V, W.alloc (.cells #[.int .i64 p, .int .i64 q] 52) = V := ⟨_, rfl⟩
  rw [hV] at h1 q0
  have HB := Lib.hid h1
  have QW := Lib.hid q0
  have QV := Lib.hid (Below.refl V.heap.size V)
  have KE1 := Lib.hid (fun (X : World) (hX : Below V.heap.size V X) => keys_any X x1 z1 (k1.later (q0.trans (hX.mono q0.size))))
  have KE2 := Lib.hid (fun (X : World) (hX : Below V.heap.size V X) => keys_any X x2 z2 (k2.later (q0.trans (hX.mono q0.size))))
  have KYX := Lib.hid (fun X => key10_any X p q hp hq)
  have PK := Lib.hid (fun n h1 h2 => pick10_ret at_ hat n h1 h2)
  obtain ⟨ra, rc, rfl, _, _⟩ := id k1
  obtain ⟨sa, sc, rfl, _, _⟩ := id k2
  have HR := Lib.hid (And.intro (keysN_may z1) (keysN_len z1))
  have HW := Lib.hid (And.intro (keysN_may z2) (keysN_len z2))
  have OKR := Lib.hid (keysN_ok z1)
  have OKW := Lib.hid (keysN_ok z2)
  have OKX := Lib.hid (keyN_ok p q)
  clear q0 h1 k1 k2
  generalize keysN z1 = r at *
  generalize keysN z2 = w at *
  generalize keyN p q = x at *
  generalize z1.length = m1 at *
  generalize z2.length = m2 at *
  obtain ⟨n1, hn1⟩ : ∃ n, r.length = n := ⟨_, rfl⟩
  obtain ⟨n2, hn2⟩ : ∃ n, w.length = n := ⟨_, rfl⟩
  have HN1 := Lib.hid hn1
  have HN2 := Lib.hid hn2
  have FR := Lib.hid (show FitN (setL r) 15 from ⟨setL_up _, any_stray.2 fun y hy => any_stray.1 HR.out.1 y ((setL_mem _ _).1 hy), Nat.le_trans (setL_len _) HR.out.2⟩)
  have FW := Lib.hid (show FitN (setL w) 15 from ⟨setL_up _, any_stray.2 fun y hy => any_stray.1 HW.out.1 y ((setL_mem _ _).1 hy), Nat.le_trans (setL_len _) HW.out.2⟩)
  have M1 := Lib.hid (makes_one HR.out.1 HW.out.1 HR.out.2 HW.out.2)
  have M2 := Lib.hid (fun k => makes_two k HR.out.1 HW.out.1 HR.out.2 HW.out.2)
  have AR := Lib.hid (amid_set x r)
  have AWW := Lib.hid (amid_set x w)
  generalize setL r = pr at *
  generalize setL w = pw at *
  have hb1 : (n1 : Int) ≤ 15 := by have := HR.out.2; omega
  have hb2 : (n2 : Int) ≤ 15 := by have := HW.out.2; omega
  clear hn1 hn2
  go_enter Try.func7, Try.ntmps7
  go_wp2_with fail
  clear hV
  have CC := Lib.hid (awake_any V)
  refine CC.out.mono ?_
  rintro _ w1 ⟨rfl, hb⟩
  replace QV := Lib.hid (QV.out.trans hb)
  clear CC hb
  have CC := Lib.hid (KE1.out w1 QV.out)
  go_wp2_with fail
  clear KE1
  refine CC.out.mono ?_
  rintro _ w2 ⟨v1, rfl, hr1, hb⟩
  replace QV := Lib.hid (QV.out.trans (hb.mono QV.out.size))
  clear CC hb
  have kr := hr1.keys OKR.out
  obtain ⟨a1, c1, ev, hnc1, hcm1⟩ := kr.shape
  subst ev
  rw [HN1.out] at kr hnc1 ⊢
  have KR := Lib.hid kr
  have TR := Lib.hid (Below.refl w2.heap.size w2)
  have HC1 := Lib.hid hnc1
  clear kr hr1 hnc1 hcm1
  have CC := Lib.hid (KE2.out w2 QV.out)
  go_wp2_with fail
  clear KE2
  refine CC.out.mono ?_
  rintro _ w3 ⟨v2, rfl, hr2, hb⟩
  replace QV := Lib.hid (QV.out.trans (hb.mono QV.out.size))
  replace TR := Lib.hid (TR.out.trans (hb.mono TR.out.size))
  clear CC hb
  have kw := hr2.keys OKW.out
  obtain ⟨a2, c2, ev, _, _⟩ := kw.shape
  subst ev
  rw [HN2.out] at kw ⊢
  have KW := Lib.hid kw
  have TW := Lib.hid (Below.refl w3.heap.size w3)
  clear kw hr2
  have hwr : IntKind.i64.wrap ((n1 : Int) + 1) = (n1 : Int) + 1 := by rw [IntKind.wrap_i64]; omega
  have CC := Lib.hid (PK.out ((n1 : Int) + 1) (by omega) (by omega))
  obtain ⟨k0, k1⟩ := pickN_range at_ ((n1 : Int) + 1) (by omega)
  obtain ⟨kk, hkk⟩ : ∃ kk : Nat, pickN at_ ((n1 : Int) + 1) = (kk : Int) := ⟨(pickN at_ ((n1 : Int) + 1)).toNat, by omega⟩
  rw [hkk] at CC k0 k1
  have hkn : kk ≤ n1 := by omega
  clear k0 k1 hkk
  go_wp2_with fail
  clear hwr PK
  refine (CC.out _).mono ?_
  rintro _ w4 ⟨rfl, hb⟩
  replace QV := Lib.hid (QV.out.trans (hb.mono QV.out.size))
  replace TR := Lib.hid (TR.out.trans (hb.mono TR.out.size))
  replace TW := Lib.hid (TW.out.trans (hb.mono TW.out.size))
  clear CC hb
  have CC := Lib.hid (show Calls Try.prog 15 #[.slice a1 n1 c1, .slice a2 n2 c2] w4 (SetsP w4 pr pw 0) from by
    have h := make_any w4 _ _ r w (KR.out.later TR.out) (KW.out.later TW.out) (by have := HR.out.2; omega) (by have := HW.out.2; omega)
    rw [M1.out] at h
    exact h)
  go_wp2_with fail
  refine CC.out.mono ?_
  rintro _ w5 ⟨x1, y1, rfl, kx1, ky1, hb⟩
  replace QV := Lib.hid (QV.out.trans (hb.mono QV.out.size))
  replace TR := Lib.hid (TR.out.trans (hb.mono TR.out.size))
  replace TW := Lib.hid (TW.out.trans (hb.mono TW.out.size))
  clear CC hb
  obtain ⟨ax1, cx1, ex1, _⟩ := kx1.shape
  obtain ⟨ay1, cy1, ey1, _⟩ := ky1.shape
  subst ex1 ey1
  have hB := Has.new w5 24 #[.slice ax1 pr.length cx1, .slice ay1 pw.length cy1]
  have hq := (Below.refl w5.heap.size w5).alloc (Nat.le_refl _) (.cells #[.slice ax1 pr.length cx1, .slice ay1 pw.length cy1] 24)
  obtain ⟨A1, hA1⟩ : ∃ A1, w5.alloc (.cells #[.slice ax1 pr.length cx1, .slice ay1 pw.length cy1] 24) = A1 := ⟨_, rfl⟩
  rw [hA1] at hB hq
  have HS1 := Lib.hid hB
  have KX1 := Lib.hid (kx1.later hq)
  have KY1 := Lib.hid (ky1.later hq)
  replace QV := Lib.hid (QV.out.trans (hq.mono QV.out.size))
  replace TR := Lib.hid (TR.out.trans (hq.mono TR.out.size))
  replace TW := Lib.hid (TW.out.trans (hq.mono TW.out.size))
  have T1 := Lib.hid (Below.refl A1.heap.size A1)
  clear hB hq kx1 ky1
  have SL := Lib.hid (run_from A1 a1 n1 c1 kk hkn HC1.out (by omega))
  have kd := (KR.out.later TR.out).from kk hkn
  generalize (.slice (fromK a1 c1 kk) (n1 - kk) (c1 - kk) : Value) = sv at *
  obtain ⟨u1, B1, e1, g1, _, b1⟩ := append_keys A1 A1.heap.size _ [] (KRow.nil _ _) (Nat.le_refl _) sv (r.drop kk) kd (by have := HR.out.2; simp; omega)
  obtain ⟨u2, B2, e2, g2, _, b2⟩ := append_keys B1 A1.heap.size u1 _ g1 b1.size _ r ((KR.out.later TR.out).later b1) (by have := HR.out.2; simp; omega)
  have b12 := b1.trans b2
  obtain ⟨u3, B3, e3, g3, _, b3⟩ := append_keys B2 B2.heap.size _ [] (KRow.nil _ _) (Nat.le_refl _) _ w ((KW.out.later TW.out).later b12) (by have := HW.out.2; simp; omega)
  have b13 := b12.trans (b3.mono b12.size)
  obtain ⟨u4, B4, e4, g4, _, b4⟩ := append_keys B3 B2.heap.size u3 _ g3 b3.size _ w ((KW.out.later TW.out).later b13) (by have := HW.out.2; simp; omega)
  have hb := b12.trans ((b3.trans b4).mono b12.size)
  have kr2 := (g2.keys (fun y hy => by
    simp only [List.nil_append] at hy
    rcases List.mem_append.1 hy with h | h
    · exact OKR.out y (List.mem_of_mem_drop h)
    · exact OKR.out y h)).later (b3.trans b4)
  have kw2 := g4.keys (fun y hy => by
    simp only [List.nil_append] at hy
    rcases List.mem_append.1 hy with h | h <;> exact OKW.out y h)
  rw [List.nil_append] at kr2 kw2
  have CC := Lib.hid (show Calls Try.prog 15 #[u2, u4] B4 (SetsP B4 pr pw 0) from by
    have h := make_any B4 _ _ (r.drop kk ++ r) (w ++ w) kr2 kw2 (by have := HR.out.2; simp; omega) (by have := HW.out.2; simp; omega)
    rw [M2.out kk] at h
    exact h)
  have E1 := Lib.hid e1
  have E2 := Lib.hid e2
  have E3 := Lib.hid e3
  have E4 := Lib.hid e4
  replace QV := Lib.hid (QV.out.trans (hb.mono QV.out.size))
  replace TR := Lib.hid (TR.out.trans (hb.mono TR.out.size))
  replace TW := Lib.hid (TW.out.trans (hb.mono TW.out.size))
  replace T1 := Lib.hid (T1.out.trans (hb.mono T1.out.size))
  clear e1 e2 e3 e4 g1 g2 g3 g4 b1 b2 b3 b4 b12 b13 hb kr2 kw2 kd
  go_wp2_with (first | (refine wpList_slice_known rfl (.tmp 39) (.tmp 40) rfl _ _ _ rfl rfl SL.out ?_) | (at_builtin; refine wpList_append_runK rfl (.const (.slice none 0 0)) (.tmp 41) 22 rfl _ _ _ rfl rfl E1.out ?_) | (at_builtin; refine wpList_append_runK rfl (.tmp 42) (.tmp 43) 22 rfl _ _ _ rfl rfl E2.out ?_) | (at_builtin; refine wpList_append_runK rfl (.const (.slice none 0 0)) (.tmp 45) 22 rfl _ _ _ rfl rfl E3.out ?_) | (at_builtin; refine wpList_append_runK rfl (.tmp 46) (.tmp 47) 22 rfl _ _ _ rfl rfl E4.out ?_))
  clear SL E1 E2 E3 E4 hA1
  refine CC.out.mono ?_
  rintro _ w6 ⟨x2, y2, rfl, kx2, ky2, hb⟩
  replace QV := Lib.hid (QV.out.trans (hb.mono QV.out.size))
  replace TR := Lib.hid (TR.out.trans (hb.mono TR.out.size))
  replace TW := Lib.hid (TW.out.trans (hb.mono TW.out.size))
  replace T1 := Lib.hid (T1.out.trans (hb.mono T1.out.size))
  clear CC hb
  obtain ⟨ax2, cx2, ex2, _⟩ := kx2.shape
  obtain ⟨ay2, cy2, ey2, _⟩ := ky2.shape
  subst ex2 ey2
  have hB := Has.new w6 24 #[.slice ax2 pr.length cx2, .slice ay2 pw.length cy2]
  have hq := (Below.refl w6.heap.size w6).alloc (Nat.le_refl _) (.cells #[.slice ax2 pr.length cx2, .slice ay2 pw.length cy2] 24)
  obtain ⟨A2, hA2⟩ : ∃ A2, w6.alloc (.cells #[.slice ax2 pr.length cx2, .slice ay2 pw.length cy2] 24) = A2 := ⟨_, rfl⟩
  rw [hA2] at hB hq
  have HS2 := Lib.hid hB
  have KX2 := Lib.hid (kx2.later hq)
  have KY2 := Lib.hid (ky2.later hq)
  replace QV := Lib.hid (QV.out.trans (hq.mono QV.out.size))
  replace TR := Lib.hid (TR.out.trans (hq.mono TR.out.size))
  replace TW := Lib.hid (TW.out.trans (hq.mono TW.out.size))
  replace T1 := Lib.hid (T1.out.trans (hq.mono T1.out.size))
  have T2 := Lib.hid (Below.refl A2.heap.size A2)
  clear hB hq kx2 ky2
  have c0 := (HB.out.later QV.out).cell 0 _ rfl
  have c1_ := (HB.out.later QV.out).cell 1 _ rfl
  have CC := Lib.hid (KYX.out A2)
  go_wp2_with fail
  clear c0 c1_ hA2
  refine CC.out.mono ?_
  rintro _ w7 ⟨rfl, hb⟩
  replace QV := Lib.hid (QV.out.trans (hb.mono QV.out.size))
  replace TR := Lib.hid (TR.out.trans (hb.mono TR.out.size))
  replace TW := Lib.hid (TW.out.trans (hb.mono TW.out.size))
  replace T1 := Lib.hid (T1.out.trans (hb.mono T1.out.size))
  replace T2 := Lib.hid (T2.out.trans (hb.mono T2.out.size))
  clear CC hb
  have h0 := Has.new w7 31 #[.int .u8 0, .int .u8 0, .int .u8 0, .int .u8 0, .int .u8 0, .int .u8 0, .int .u8 0, .int .u8 0, .int .u8 0, .int .u8 0, .int .u8 0, .int .u8 0, .int .u8 0, .int .u8 0, .int .u8 0, .int .u8 0, .int .u8 0, .int .u8 0, .int .u8 0, .int .u8 0, .bool false, .int .u64 0, .int .u64 0, .int .u64 0, .int .u64 0]
  have hq := (Below.refl w7.heap.size w7).alloc (Nat.le_refl _) (.cells #[.int .u8 0, .int .u8 0, .int .u8 0, .int .u8 0, .int .u8 0, .int .u8 0, .int .u8 0, .int .u8 0, .int .u8 0, .int .u8 0, .int .u8 0, .int .u8 0, .int .u8 0, .int .u8 0, .int .u8 0, .int .u8 0, .int .u8 0, .int .u8 0, .int .u8 0, .int .u8 0, .bool false, .int .u64 0, .int .u64 0, .int .u64 0, .int .u64 0] 31)
  obtain ⟨A3, hA3⟩ : ∃ A3, w7.alloc (.cells #[.int .u8 0, .int .u8 0, .int .u8 0, .int .u8 0, .int .u8 0, .int .u8 0, .int .u8 0, .int .u8 0, .int .u8 0, .int .u8 0, .int .u8 0, .int .u8 0, .int .u8 0, .int .u8 0, .int .u8 0, .int .u8 0, .int .u8 0, .int .u8 0, .int .u8 0, .int .u8 0, .bool false, .int .u64 0, .int .u64 0, .int .u64 0, .int .u64 0] 31) = A3 := ⟨_, rfl⟩
  rw [hA3] at h0 hq
  have h4 : Has (A3.setRow w7.heap.size (kyC x)) w7.heap.size 31 (kyC x) := setRow_heap _ _ _ _ _ _ h0
  replace hq := below_rowK hq (g := w7.heap.size) (Nat.le_refl _) (kyC x)
  obtain ⟨A4, hA4⟩ : ∃ A4, A3.setRow w7.heap.size (kyC x) = A4 := ⟨_, rfl⟩
  rw [hA4] at h4 hq
  have hi : (Try.prog.info? 31).map (·.size) = some (kyC x).size := by rw [kyC_size]; exact infoKy
  have HI := Lib.hid hi
  have HZ := Lib.hid (show (#[.int .u8 0, .int .u8 0, .int .u8 0, .int .u8 0, .int .u8 0, .int .u8 0, .int .u8 0, .int .u8 0, .int .u8 0, .int .u8 0, .int .u8 0, .int .u8 0, .int .u8 0, .int .u8 0, .int .u8 0, .int .u8 0, .int .u8 0, .int .u8 0, .int .u8 0, .int .u8 0, .bool false, .int .u64 0, .int .u64 0, .int .u64 0, .int .u64 0] : Array Value).size = (kyC x).size by rw [kyC_size]; rfl)
  have HO := Lib.hid (kyC_one x)
  have H0 := Lib.hid h0
  have HX := Lib.hid h4
  replace QV := Lib.hid (QV.out.trans (hq.mono QV.out.size))
  replace TR := Lib.hid (TR.out.trans (hq.mono TR.out.size))
  replace TW := Lib.hid (TW.out.trans (hq.mono TW.out.size))
  replace T1 := Lib.hid (T1.out.trans (hq.mono T1.out.size))
  replace T2 := Lib.hid (T2.out.trans (hq.mono T2.out.size))
  have TX := Lib.hid (Below.refl A4.heap.size A4)
  clear h0 h4 hq hi
  go_wp2_with (first | (refine wpList_store_row rfl _ (.tmp 17) (.tmp 56) rfl _ _ rfl rfl _ _ H0.out HI.out HZ.out HO.out ?_; rw [hA4]) | fail)
  clear hA3 hA4
  go_loopw [18, 20] (fun bv iv wr => ∃ k : Nat, bv = .bool (amidB x (r.take k)) ∧ iv = .int .i64 (k : Int) ∧ k ≤ n1 ∧ Below A4.heap.size A4 wr) (fun _ iv _ => n1 - (intOf iv).toNat)
  case atStart => exact ⟨0, rfl, rfl, by omega, Below.refl _ _⟩
  case round =>
    obtain ⟨k, rfl, rfl, hk, hq⟩ := hrel
    have HQ := Lib.hid hq
    have HK := Lib.hid hk
    obtain ⟨V1, hV1⟩ : ∃ V1, V1 = wr := ⟨_, rfl⟩
    subst hV1
    clear hq
    by_cases hkn1 : k < n1
    · have hknI : (k : Int) < (n1 : Int) := by omega
      have hk0 : (0 : Int) ≤ (k : Int) := by omega
      have hkb : (k : Int) ≤ 9223372036854775806 := by omega
      obtain ⟨y, hy⟩ : ∃ y, r[k]? = some y := ⟨_, List.getElem?_eq_getElem (by have := HN1.out; omega)⟩
      have HNX := Lib.hid (amid_next (x := x) hy)
      obtain ⟨b, rfl, ay⟩ := ((KR.out.later TR.out).later HQ.out).at hy
      have LY := Lib.hid (show ∀ z : World, Grows V1 z → (loadVar 31 (b.add (k * 25))).run Try.prog z = .ok (.agg (kyC y)) z from fun z hz => by obtain ⟨q, rfl⟩ := hz; exact (ay.later q.below).load)
      have LX := Lib.hid (show ∀ z : World, Grows V1 z → (loadVar 31 ⟨w7.heap.size, 0, none⟩).run Try.prog z = .ok (.agg (kyC x)) z from fun z hz => by obtain ⟨q, rfl⟩ := hz; exact (((HX.out.later TX.out).later HQ.out).later q.below).kyLoad)
      have E := fun w : World => eqKey y x (KR.out.ok hy) OKX.out w
      have HKK := Lib.hid hkn1
      clear hkn1 hk ay hy
      obtain ⟨bt, hbt⟩ : ∃ bt, amidB x (r.take k) = bt := ⟨_, rfl⟩
      obtain ⟨et, het⟩ : ∃ et, decide (y = x) = et := ⟨_, rfl⟩
      rw [hbt] at HNX ⊢
      rw [het] at HNX E
      clear hbt het
      generalize kyC y = cy at *
      generalize kyC x = cx at *
      cases bt
      all_goals (
        go_wp2_with fail
        refine wp_region_quietL (C := Grows V1) hmx (by kernel_rfl) (grows_refl V1) ?_
        repeat (first | (with_reducible refine wpQuiet_load rfl 31 _ rfl _ rfl _ LY.out ?_; simp only [Act.put, List.setIfInBounds_toArray, List.set_cons_succ, List.set_cons_zero]) | (with_reducible refine wpQuiet_load rfl 31 _ rfl _ rfl _ LX.out ?_; simp only [Act.put, List.setIfInBounds_toArray, List.set_cons_succ, List.set_cons_zero]) | (go_big_quiet_step (fail)))
        refine wpQuiet_nil ?_
        rintro _ ⟨z, rfl⟩
        have HE := Lib.hid (HQ.out.trans (z.below.mono HQ.out.size))
        clear LX LY
        go_wp2_with fail
        go_roundw
        case rel => exact ⟨k + 1, by rw [HNX.out]; simp, by simp, by have := HKK.out; omega, HE.out⟩
        case measure => have := HKK.out; simp [intOf]; omega)
    · obtain rfl : k = n1 := by have := HK.out; omega
      have hnn : ¬ (k : Int) < (k : Int) := by omega
      rw [show r.take k = r from List.take_of_length_le (by have := HN1.out; omega)]
      have hq0 := HQ.out
      replace QV := Lib.hid (QV.out.trans (hq0.mono QV.out.size))
      replace TR := Lib.hid (TR.out.trans (hq0.mono TR.out.size))
      replace TW := Lib.hid (TW.out.trans (hq0.mono TW.out.size))
      replace T1 := Lib.hid (T1.out.trans (hq0.mono T1.out.size))
      replace T2 := Lib.hid (T2.out.trans (hq0.mono T2.out.size))
      replace TX := Lib.hid (TX.out.trans (hq0.mono TX.out.size))
      clear hq0 hnn HK hkn hk hkn1
      obtain ⟨inR, hinR⟩ : ∃ b, amidB x r = b := ⟨_, rfl⟩
      rw [hinR]
      have EIR := Lib.hid hinR
      clear hinR
      go_wp2_with fail
      go_loopw [19, 21] (fun bv iv wr => ∃ k : Nat, bv = .bool (amidB x (w.take k)) ∧ iv = .int .i64 (k : Int) ∧ k ≤ n2 ∧ Below V1.heap.size V1 wr) (fun _ iv _ => n2 - (intOf iv).toNat)
      case atStart => exact ⟨0, rfl, rfl, by omega, Below.refl _ _⟩
      case round =>
        obtain ⟨k, rfl, rfl, hk, hq⟩ := hrel
        have HP := Lib.hid hq
        have HJ := Lib.hid hk
        obtain ⟨V2, hV2⟩ : ∃ V2, V2 = wr := ⟨_, rfl⟩
        subst hV2
        clear hq
        by_cases hkn1 : k < n2
        · have hknI : (k : Int) < (n2 : Int) := by omega
          have hk0 : (0 : Int) ≤ (k : Int) := by omega
          have hkb : (k : Int) ≤ 9223372036854775806 := by omega
          obtain ⟨y, hy⟩ : ∃ y, w[k]? = some y := ⟨_, List.getElem?_eq_getElem (by have := HN2.out; omega)⟩
          have HNX := Lib.hid (amid_next (x := x) hy)
          obtain ⟨b, rfl, ay⟩ := ((KW.out.later TW.out).later HP.out).at hy
          have LY := Lib.hid (show ∀ z : World, Grows V2 z → (loadVar 31 (b.add (k * 25))).run Try.prog z = .ok (.agg (kyC y)) z from fun z hz => by obtain ⟨q, rfl⟩ := hz; exact (ay.later q.below).load)
          have LX := Lib.hid (show ∀ z : World, Grows V2 z → (loadVar 31 ⟨w7.heap.size, 0, none⟩).run Try.prog z = .ok (.agg (kyC x)) z from fun z hz => by obtain ⟨q, rfl⟩ := hz; exact (((HX.out.later TX.out).later HP.out).later q.below).kyLoad)
          have E := fun w : World => eqKey y x (KW.out.ok hy) OKX.out w
          have HJK := Lib.hid hkn1
          clear hkn1 hk ay hy
          obtain ⟨bt, hbt⟩ : ∃ bt, amidB x (w.take k) = bt := ⟨_, rfl⟩
          obtain ⟨et, het⟩ : ∃ et, decide (y = x) = et := ⟨_, rfl⟩
          rw [hbt] at HNX ⊢
          rw [het] at HNX E
          clear hbt het
          generalize kyC y = cy at *
          generalize kyC x = cx at *
          cases bt
          all_goals (
            go_wp2_with fail
            refine wp_region_quietL (C := Grows V2) hmx (by kernel_rfl) (grows_refl V2) ?_
            repeat (first | (with_reducible refine wpQuiet_load rfl 31 _ rfl _ rfl _ LY.out ?_; simp only [Act.put, List.setIfInBounds_toArray, List.set_cons_succ, List.set_cons_zero]) | (with_reducible refine wpQuiet_load rfl 31 _ rfl _ rfl _ LX.out ?_; simp only [Act.put, List.setIfInBounds_toArray, List.set_cons_succ, List.set_cons_zero]) | (go_big_quiet_step (fail)))
            refine wpQuiet_nil ?_
            rintro _ ⟨z, rfl⟩
            have HE := Lib.hid (HP.out.trans (z.below.mono HP.out.size))
            clear LX LY
            go_wp2_with fail
            go_roundw
            case rel => exact ⟨k + 1, by rw [HNX.out]; simp, by simp, by have := HJK.out; omega, HE.out⟩
            case measure => have := HJK.out; simp [intOf]; omega)
        · obtain rfl : k = n2 := by have := HJ.out; omega
          have hnn : ¬ (k : Int) < (k : Int) := by omega
          rw [show w.take k = w from List.take_of_length_le (by have := HN2.out; omega)]
          have hq0 := HP.out
          replace QV := Lib.hid (QV.out.trans (hq0.mono QV.out.size))
          replace TR := Lib.hid (TR.out.trans (hq0.mono TR.out.size))
          replace TW := Lib.hid (TW.out.trans (hq0.mono TW.out.size))
          replace T1 := Lib.hid (T1.out.trans (hq0.mono T1.out.size))
          replace T2 := Lib.hid (T2.out.trans (hq0.mono T2.out.size))
          replace TX := Lib.hid (TX.out.trans (hq0.mono TX.out.size))
          clear hq0 hnn
          obtain ⟨inW, hinW⟩ : ∃ b, amidB x w = b := ⟨_, rfl⟩
          rw [hinW]
          have EIW := Lib.hid hinW
          clear hinW
          have MT := Lib.hid (fun (X : World) (v : Value) (hs : SetsAt X v pr pw) => (show Calls Try.prog 20 #[v, .agg (kyC x), .bool true] X (fun e w' => e = .returned (.bool (inW || (!true && inR))) ∧ Below X.heap.size X w') from by
            have h := kmay_any X v pr pw x true OKX.out hs
            rw [AWW.out, EIW.out, AR.out, EIR.out] at h
            exact h))
          have MF := Lib.hid (fun (X : World) (v : Value) (hs : SetsAt X v pr pw) => (show Calls Try.prog 20 #[v, .agg (kyC x), .bool false] X (fun e w' => e = .returned (.bool (inW || (!false && inR))) ∧ Below X.heap.size X w') from by
            have h := kmay_any X v pr pw x false OKX.out hs
            rw [AWW.out, EIW.out, AR.out, EIR.out] at h
            exact h))
          clear AWW EIW AR EIR M1 M2
          cases inR <;> cases inW
          all_goals (
            have u0 := (HS1.out.later T1.out).cell 0 _ rfl
            have u1 := (HS1.out.later T1.out).cell 1 _ rfl
            have v0 := (HS2.out.later T2.out).cell 0 _ rfl
            have v1 := (HS2.out.later T2.out).cell 1 _ rfl
            have CC := Lib.hid (show Calls Try.prog 17 #[.agg #[.slice ax1 pr.length cx1, .slice ay1 pw.length cy1], .agg #[.slice ax2 pr.length cx2, .slice ay2 pw.length cy2]] V2 (fun e w' => e = .returned (.bool true) ∧ Below V2.heap.size V2 w') from by
              have h := ksets_any V2 _ _ pr pw pr pw (⟨_, _, rfl, KX1.out.later T1.out, KY1.out.later T1.out⟩ : SetsAt _ (.agg #[.slice ax1 pr.length cx1, .slice ay1 pw.length cy1]) pr pw) (⟨_, _, rfl, KX2.out.later T2.out, KY2.out.later T2.out⟩ : SetsAt _ (.agg #[.slice ax2 pr.length cx2, .slice ay2 pw.length cy2]) pr pw)
              rw [decide_eq_true rfl, decide_eq_true rfl] at h
              exact h)
            go_wp2_with fail
            clear u0 u1 v0 v1
            refine CC.out.mono ?_
            rintro _ w8 ⟨rfl, hb⟩
            replace QV := Lib.hid (QV.out.trans (hb.mono QV.out.size))
            replace TR := Lib.hid (TR.out.trans (hb.mono TR.out.size))
            replace TW := Lib.hid (TW.out.trans (hb.mono TW.out.size))
            replace T1 := Lib.hid (T1.out.trans (hb.mono T1.out.size))
            replace T2 := Lib.hid (T2.out.trans (hb.mono T2.out.size))
            replace TX := Lib.hid (TX.out.trans (hb.mono TX.out.size))
            clear CC hb
            have u0 := (HS1.out.later T1.out).cell 0 _ rfl
            have u1 := (HS1.out.later T1.out).cell 1 _ rfl
            have CC := Lib.hid (show Calls Try.prog 18 #[.agg #[.slice ax1 pr.length cx1, .slice ay1 pw.length cy1]] w8 (fun e w' => e = .returned (.bool true) ∧ Below w8.heap.size w8 w') from by
              have h := kright_any w8 _ pr pw (⟨_, _, rfl, KX1.out.later T1.out, KY1.out.later T1.out⟩ : SetsAt _ (.agg #[.slice ax1 pr.length cx1, .slice ay1 pw.length cy1]) pr pw)
              rw [FR.out.fit (by decide), FW.out.fit (by decide)] at h
              exact h)
            go_wp2_with fail
            clear u0 u1
            refine CC.out.mono ?_
            rintro _ w9 ⟨rfl, hb⟩
            replace QV := Lib.hid (QV.out.trans (hb.mono QV.out.size))
            replace TR := Lib.hid (TR.out.trans (hb.mono TR.out.size))
            replace TW := Lib.hid (TW.out.trans (hb.mono TW.out.size))
            replace T1 := Lib.hid (T1.out.trans (hb.mono T1.out.size))
            replace T2 := Lib.hid (T2.out.trans (hb.mono T2.out.size))
            replace TX := Lib.hid (TX.out.trans (hb.mono TX.out.size))
            clear CC hb
            have u0 := (HS1.out.later T1.out).cell 0 _ rfl
            have u1 := (HS1.out.later T1.out).cell 1 _ rfl
            have LX := Lib.hid (HX.out.later TX.out).kyLoad
            have CC := Lib.hid (MT.out w9 _ (⟨_, _, rfl, KX1.out.later T1.out, KY1.out.later T1.out⟩ : SetsAt _ (.agg #[.slice ax1 pr.length cx1, .slice ay1 pw.length cy1]) pr pw))
            go_wp2_with (refine wpList_load_known rfl _ (.tmp 17) rfl _ rfl _ LX.out ?_)
            clear u0 u1 LX
            refine CC.out.mono ?_
            rintro _ w10 ⟨rfl, hb⟩
            replace QV := Lib.hid (QV.out.trans (hb.mono QV.out.size))
            replace TR := Lib.hid (TR.out.trans (hb.mono TR.out.size))
            replace TW := Lib.hid (TW.out.trans (hb.mono TW.out.size))
            replace T1 := Lib.hid (T1.out.trans (hb.mono T1.out.size))
            replace T2 := Lib.hid (T2.out.trans (hb.mono T2.out.size))
            replace TX := Lib.hid (TX.out.trans (hb.mono TX.out.size))
            clear CC hb
            have u0 := (HS1.out.later T1.out).cell 0 _ rfl
            have u1 := (HS1.out.later T1.out).cell 1 _ rfl
            have LX := Lib.hid (HX.out.later TX.out).kyLoad
            have CC := Lib.hid (MF.out w10 _ (⟨_, _, rfl, KX1.out.later T1.out, KY1.out.later T1.out⟩ : SetsAt _ (.agg #[.slice ax1 pr.length cx1, .slice ay1 pw.length cy1]) pr pw))
            go_wp2_with (refine wpList_load_known rfl _ (.tmp 17) rfl _ rfl _ LX.out ?_)
            clear u0 u1 LX
            refine CC.out.mono ?_
            rintro _ w11 ⟨rfl, hb⟩
            replace QV := Lib.hid (QV.out.trans (hb.mono QV.out.size))
            replace TR := Lib.hid (TR.out.trans (hb.mono TR.out.size))
            replace TW := Lib.hid (TW.out.trans (hb.mono TW.out.size))
            replace T1 := Lib.hid (T1.out.trans (hb.mono T1.out.size))
            replace T2 := Lib.hid (T2.out.trans (hb.mono T2.out.size))
            replace TX := Lib.hid (TX.out.trans (hb.mono TX.out.size))
            clear CC hb
            have QF := Lib.hid (QW.out.trans (QV.out.mono QW.out.size))
            go_wp2_with fail
            go_ret
            exact ⟨rfl, QF.out⟩)
end Go.Proofs.Ytfnkmafdmfljmaa
