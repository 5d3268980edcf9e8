/- both's iterator, meet. Conditions: the keys lie in memory, and rise. -/
import Derived.Test.YtbkgipggblphlaaAcX
namespace Go.Proofs.Ytbkgipggblphlaa
open Go Go.RowKit Go.Shelf
attribute [local go_sem] Oper.semAt_some Grows wide_fn

/-- A load that is known, inside a fence. -/
theorem wpListIn_load_known {P : Program} {F : Fence} {n : Nat} {ops : Array Oper} {rest : List Oper} {o : Oper} {a : Act} {w : World} {Q : Exit → Act → World → Prop} (hw : Region.wanted o (yielded ops a.tmps) = true) (ty : TypeId) (x : Operand) (ho : o.op = .load ty x) (p : Addr) (hx : a.eval x = .pointer (some p)) (v : Value) (hr : (loadVar ty p).run P w = .ok v w)
    (h : wpListIn F n P ops Q rest (a.put o.dst v) w) : wpListIn F n P ops Q (o :: rest) a w :=
  BigFrame.wpListIn_want hw fun K hK => by
    refine ⟨fun f hf => ?_, ?_⟩
    · simp [Oper.about, ho] at hf
    · rw [Oper.semAt_eq _ _ _ (by simp [ho])]
      unfold execOp
      simp only [ho, hx, Instr.loadAt, Instr.sureAddr, Sem.run_bind, Sem.run_pure, Result.andThen_ok, hr]
      exact hK _ _ h
/-- What two lists have in common lies behind these places. -/
def Behind (la lb : List Ky) (i j : Nat) : Prop := ∀ x, x ∈ la → x ∈ lb → x ∈ la.drop i ∧ x ∈ lb.drop j
theorem Behind.left {la lb : List Ky} {i j : Nat} {x y : Ky} (h : Behind la lb i j) (ha : Kup la) (hb : Kup lb) (hx : la[i]? = some x) (hy : lb[j]? = some y) (hl : Kl x y) : Behind la lb (i + 1) j := fun z h1 h2 => by
  obtain ⟨k1, k2⟩ := h z h1 h2
  refine ⟨?_, k2⟩
  have hi := (List.getElem?_eq_some_iff.1 hx).1
  have hj := (List.getElem?_eq_some_iff.1 hy).1
  rw [List.drop_eq_getElem_cons hi, (List.getElem?_eq_some_iff.1 hx).2] at k1
  rcases List.mem_cons.1 k1 with rfl | k1
  · exfalso
    rw [List.drop_eq_getElem_cons hj, (List.getElem?_eq_some_iff.1 hy).2] at k2
    rcases List.mem_cons.1 k2 with rfl | k3
    · exact Kl.irrefl _ hl
    · have hd : Kup (lb.drop j) := List.Pairwise.drop hb
      rw [List.drop_eq_getElem_cons hj, (List.getElem?_eq_some_iff.1 hy).2] at hd
      exact Kl.irrefl _ (hl.trans ((List.pairwise_cons.1 hd).1 _ k3))
  · exact k1
theorem Behind.right {la lb : List Ky} {i j : Nat} {x y : Ky} (h : Behind la lb i j) (ha : Kup la) (hb : Kup lb) (hx : la[i]? = some x) (hy : lb[j]? = some y) (hl : Kl y x) : Behind la lb i (j + 1) := fun z h1 h2 => by
  have h' : Behind lb la j i := fun z a b => (h z b a).symm
  exact (h'.left hb ha hy hx hl z h2 h1).symm
/-- What the iterator's loop knows. -/
structure BothP (w0 : World) (J : List Ky → World → Prop) (la lb : List Ky) (i j : Nat) (pre : List Ky) (w : World) : Prop where
  il : i ≤ la.length
  jl : j ≤ lb.length
  pl : pre.length ≤ i
  bh : pre = [] → Behind la lb i j
  have_ : J pre w
  below : Below w0.heap.size w0 w
theorem abides_below {J : List Ky → World → Prop} {B : Nat} (hJ : AbidesFrom B J) {pre : List Ky} {W X : World} (h : J pre W) (hb : Below W.heap.size W X) : J pre X := hJ pre W X none h (grown_of_below hb none) (fun r e => by cases e)
set_option maxRecDepth 100000 in
set_option maxHeartbeats 8000000 in
theorem both_stops (n : Nat) (la lb : List Ky) (sa sb : Value) (B1 B2 B3 : Nat) (w0 : World) (ha : KeysAt w0 sa la) (hb : KeysAt w0 sb lb) (hua : Kup la) (hub : Kup lb)
    (h1 : Has w0 B1 22 #[sa]) (h2 : Has w0 B2 22 #[sb]) (h3 : Has w0 B3 37 #[.func (.func 9) #[] #[]]) :
    SeqStopsK Fence.wide n Try.prog 64 #[.pointer (some ⟨B1, 0, none⟩), .pointer (some ⟨B2, 0, none⟩), .pointer (some ⟨B3, 0, none⟩)] (fun x : Ky => #[Value.agg (kyC x)]) (Below w0.heap.size)
      (fun xs => xs = [] → ∀ x, x ∈ la → x ∈ lb → False) (fun _ => ∃ x, x ∈ la ∧ x ∈ lb) (la.length + 1) w0 := by
  intro ll J Jx W hW hJA hJxA hY h0
  have hmx : Try.prog.follows .mixedOrders = true := by kernel_rfl
  have HW0 := Lib.hid hW
  have HJA := Lib.hid hJA
  have HY := Lib.hid hY
  have HH := Lib.hid (And.intro h1 (And.intro h2 h3))
  have HA := Lib.hid ha
  have HB := Lib.hid hb
  have HUA := Lib.hid hua
  have HUB := Lib.hid hub
  have HJ0 := Lib.hid h0
  obtain ⟨aa, ca, rfl, hna, hma⟩ := ha.shape
  obtain ⟨ab, cb, rfl, hnb, hmb⟩ := hb.shape
  obtain ⟨na, hla⟩ : ∃ n, la.length = n := ⟨_, rfl⟩
  obtain ⟨nb, hlb⟩ : ∃ n, lb.length = n := ⟨_, rfl⟩
  have HLA := Lib.hid hla
  have HLB := Lib.hid hlb
  rw [hla] at HA HH HY hna
  rw [hlb] at HB HH hnb
  have HNA := Lib.hid (show na ≤ 9223372036854775807 from Nat.le_trans hna hma)
  have HNB := Lib.hid (show nb ≤ 9223372036854775807 from Nat.le_trans hnb hmb)
  clear hJA hJxA hY h1 h2 h3 ha hb hW h0 hua hub hna hma hnb hmb hla hlb
  refine callsIn_of_wp Try.func64 rfl trivial ?_ rfl
  simp only [Try.ntmps64, List.size_toArray, List.length_cons, List.length_nil, Nat.reduceAdd, Nat.reduceSub, Array.replicate_succ, Array.replicate_zero, List.push_toArray, List.append_toArray, List.nil_append, List.cons_append]
  gi_wp2_with fail
  gi_loopw [5, 6] (fun iv jv wr => ∃ (i j : Nat) (pre : List Ky), iv = .int .i64 (i : Int) ∧ jv = .int .i64 (j : Int) ∧ BothP w0 J la lb i j pre wr) (fun iv jv _ => na + nb - (intOf iv).toNat - (intOf jv).toNat)
  case atStart => exact ⟨0, 0, [], rfl, rfl, Nat.zero_le _, Nat.zero_le _, Nat.zero_le _, fun _ x h1 h2 => by simp [h1, h2], HJ0.out, HW0.out⟩
  case round =>
    obtain ⟨i, j, pre, rfl, rfl, hp⟩ := hrel
    have HP := Lib.hid hp
    have c1 := (HH.out.1.later hp.below).cell 0 _ rfl
    have c2 := (HH.out.2.1.later hp.below).cell 0 _ rfl
    have hi' := hp.il
    have hj' := hp.jl
    rw [HLA.out] at hi'
    rw [HLB.out] at hj'
    clear hp
    by_cases hi : i < na
    · have hiI : (i : Int) < (na : Int) := by omega
      have hi0 : (0 : Int) ≤ (i : Int) := by omega
      have hib : (i : Int) ≤ 9223372036854775806 := by have := HNA.out; omega
      by_cases hj : j < nb
      · have hjI : (j : Int) < (nb : Int) := by omega
        have hj0 : (0 : Int) ≤ (j : Int) := by omega
        have hjb : (j : Int) ≤ 9223372036854775806 := by have := HNB.out; omega
        obtain ⟨x, hx⟩ : ∃ x, la[i]? = some x := ⟨_, List.getElem?_eq_getElem (by have := HLA.out; omega)⟩
        obtain ⟨y, hy⟩ : ∃ y, lb[j]? = some y := ⟨_, List.getElem?_eq_getElem (by have := HLB.out; omega)⟩
        obtain ⟨b, rfl, ax⟩ := (HA.out.later HP.out.below).at hx
        obtain ⟨b2, rfl, ay⟩ := (HB.out.later HP.out.below).at hy
        have LX := Lib.hid (show ∀ z : World, Grows wr z → (loadVar 31 (b.add (i * 25))).run Try.prog z = .ok (.agg (kyC x)) z from fun z hz => by obtain ⟨q, rfl⟩ := hz; exact (ax.later q.below).load)
        have LY := Lib.hid (show ∀ z : World, Grows wr z → (loadVar 31 (b2.add (j * 25))).run Try.prog z = .ok (.agg (kyC y)) z from fun z hz => by obtain ⟨q, rfl⟩ := hz; exact (ay.later q.below).load)
        have K3 := Lib.hid (fun z : Ext wr => Ext.atK (korder_any z.w x y (HA.out.ok hx) (HB.out.ok hy)))
        have e1 : ∀ z : Ext wr, z.w.cell? ⟨B1, 0, none⟩ = some (.slice (some b) na ca) := fun z => cell_below z.below _ _ c1
        have e2 : ∀ z : Ext wr, z.w.cell? ⟨B2, 0, none⟩ = some (.slice (some b2) nb cb) := fun z => cell_below z.below _ _ c2
        have e3 : ∀ z : Ext wr, z.w.cell? ⟨B3, 0, none⟩ = some (.func (.func 9) #[] #[]) := fun z => ((HH.out.2.2.later HP.out.below).later z.below).cell 0 _ rfl
        have HX := Lib.hid (And.intro hx hy)
        have HIJ := Lib.hid (And.intro hi hj)
        have CX := Lib.hid (show kyC x = kyC x from rfl)
        have HT := Lib.hid (kcmp_tri x y)
        clear hx hy ax ay hi hj hi' hj'
        generalize hcx : kyC x = cx at LX K3
        generalize hcy : kyC y = cy at LY K3
        have HCX := Lib.hid hcx
        clear hcx hcy CX
        gi_wp2_with fail
        refine wpIn_region_quietF (C := Grows wr) free_wide hmx (by kernel_rfl) (by kernel_rfl) (grows_refl wr) ?_
        repeat (first | (with_reducible refine wpQuiet_load rfl 31 _ rfl _ rfl _ LX.out ?_; simp only [Act.put, List.setIfInBounds_toArray, List.set_cons_succ, List.set_cons_zero]) | (with_reducible refine wpQuiet_load rfl 31 _ rfl _ rfl _ LY.out ?_; simp only [Act.put, List.setIfInBounds_toArray, List.set_cons_succ, List.set_cons_zero]) | (go_big_quiet_step (first | (with_reducible exact K3.out _))))
        refine wpQuiet_nil ?_
        rintro _ ⟨z, rfl⟩
        have HPZ := Lib.hid (show BothP w0 J la lb i j pre z.w from ⟨HP.out.il, HP.out.jl, HP.out.pl, HP.out.bh, abides_below HJA.out HP.out.have_ z.below, HP.out.below.trans (z.below.mono HP.out.below.size)⟩)
        have d1 := e1 z
        have LZ := Lib.hid (LX.out z.w ⟨z, rfl⟩)
        clear LX LY K3 e1 e2 e3 c1 c2
        rcases HT.out with ⟨hl, hc⟩ | ⟨he, hc⟩ | ⟨hl, hc⟩
        · rw [hc]
          have HL := Lib.hid hl
          clear hl hc
          gi_wp2_with fail
          go_roundw
          case rel => exact ⟨i + 1, j, pre, by simp, rfl, by have := HIJ.out; have := HLA.out; omega, HPZ.out.jl, by have := HPZ.out.pl; omega, fun h => (HPZ.out.bh h).left HUA.out HUB.out HX.out.1 HX.out.2 HL.out, HPZ.out.have_, HPZ.out.below⟩
          case measure => have := HIJ.out; simp [intOf]; omega
        · rw [hc]
          have HE := Lib.hid he
          have HYX := Lib.hid (HY.out pre x z.w HPZ.out.have_ (by have := HPZ.out.pl; have := HIJ.out; omega))
          clear he hc
          obtain ⟨fn, tmps, assign, body, hy, hR⟩ := HYX.out
          rw [HCX.out] at hy
          have HR := Lib.hid hR
          clear hR HYX
          gi_wp2_with (first | (with_reducible refine wpListIn_load_known rfl _ (.tmp 34) rfl _ rfl _ LZ.out ?_) | fail)
          refine ⟨fun h => absurd h (by simp [Fence.wide]), HR.out.mono ?_⟩
          rintro e W3 (⟨rfl, hJ3, hk3⟩ | ⟨rfl, hJx3⟩)
          · have HJ3 := Lib.hid hJ3
            have HK3 := Lib.hid (HPZ.out.below.trans hk3)
            clear hJ3 hk3 hy
            gi_wp2_with fail
            go_roundw
            case rel => exact ⟨i + 1, j + 1, pre ++ [x], by simp, by simp, by have := HIJ.out; have := HLA.out; omega, by have := HIJ.out; have := HLB.out; omega, by have := HPZ.out.pl; simp; omega, fun h => by simp at h, HJ3.out, HK3.out⟩
            case measure => have := HIJ.out; simp [intOf]; omega
          · have HJx3 := Lib.hid hJx3
            clear hJx3 hy
            gi_wp2_with fail
            refine bodyPost_ret (results_none rfl _ _ _) rfl ?_
            exact ⟨⟨_, rfl⟩, .inr ⟨_, ⟨x, List.mem_of_getElem? HX.out.1, by rw [HE.out]; exact List.mem_of_getElem? HX.out.2⟩, HJx3.out⟩⟩
        · rw [hc]
          have HL := Lib.hid hl
          clear hl hc
          gi_wp2_with fail
          go_roundw
          case rel => exact ⟨i, j + 1, pre, rfl, by simp, HPZ.out.il, by have := HIJ.out; have := HLB.out; omega, HPZ.out.pl, fun h => (HPZ.out.bh h).right HUA.out HUB.out HX.out.1 HX.out.2 HL.out, HPZ.out.have_, HPZ.out.below⟩
          case measure => have := HIJ.out; simp [intOf]; omega
      · have hjI : ¬ (j : Int) < (nb : Int) := by omega
        have HE := Lib.hid (show j = lb.length by have := HLB.out; omega)
        clear hj hi hi' hj'
        gi_wp2_with fail
        go_end0
        have hS : pre = [] → ∀ x, x ∈ la → x ∈ lb → False := fun hn x h1 h2 => by
          have := (HP.out.bh hn x h1 h2).2
          rw [HE.out, List.drop_length] at this
          exact absurd this (by simp)
        exact ⟨⟨_, rfl⟩, .inl ⟨pre, hS, HP.out.have_⟩⟩
    · have hiI : ¬ (i : Int) < (na : Int) := by omega
      have HE := Lib.hid (show i = la.length by have := HLA.out; omega)
      clear hi hi' hj'
      gi_wp2_with fail
      go_end0
      have hS : pre = [] → ∀ x, x ∈ la → x ∈ lb → False := fun hn x h1 h2 => by
        have := (HP.out.bh hn x h1 h2).1
        rw [HE.out, List.drop_length] at this
        exact absurd this (by simp)
      exact ⟨⟨_, rfl⟩, .inl ⟨pre, hS, HP.out.have_⟩⟩
end Go.Proofs.Ytbkgipggblphlaa
