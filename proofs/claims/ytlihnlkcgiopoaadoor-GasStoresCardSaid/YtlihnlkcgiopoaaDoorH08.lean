/- Part. -/
import Derived.Test.YtlihnlkcgiopoaaDoorH07
import Derived.Test.YtlihnlkcgiopoaaDoorRows
import Derived.ProofKit
import Derived.LaidMore
import Derived.OpenShut
import Derived.Stop.Joined
import Derived.ChangeSame
import Derived.Below
import Derived.Laws.IdiomArrays
import Derived.Test.YtlihnlkcgiopoaaDoorH03
set_option maxRecDepth 100000
set_option maxHeartbeats 16000000
namespace Go.Proofs.YtlihnlkcgiopoaaDoor
section
open Go Go.RowKit
attribute [local go_sem] Oper.semAt_some Grows wide_fn eq4
theorem Has.rowG {W : World} {B : Nat} {t : TypeId} {cs cs' : Array Value} (h : Has W B t cs) : Has (W.setRow B cs') B t cs' := setRow_heap _ _ _ _ _ _ h
theorem Has.rowOtherG {W : World} {b B : Nat} {t : TypeId} {cs cs' : Array Value} (h : Has W b t cs) (hne : b ≠ B) : Has (W.setRow B cs') b t cs := by
 refine Eq.trans ?_ h
 show (W.heap.modify B _)[b]? = _
 rw [Array.getElem?_modify, if_neg (fun e => hne e.symm)]
def phiN (o c : Nat) : Int := if c = o then 0 else if o = 0 then 19900 else if c = 0 then -2000 else 2800
def bzN (o c : Nat) : Int := if o = 0 then 0 else if c = 0 then 4800 else 0
theorem phi_step (o c v : Nat) (t : Bool) : costN o c v t - refundedN o c v = 100 + (if t then 0 else 2100) + phiN o v - phiN o c := by
 unfold costN writtenN refundedN clearedN restoredN firstN phiN
 generalize (if t = true then (0 : Int) else 2100) = x
 by_cases h1 : c = v
 ·subst h1; simp <;> omega
 ·by_cases h2 : o = c
  ·subst h2
   simp only [h1, if_false, ne_eq, not_true_eq_false, or_self, true_or, if_true]
   by_cases h3 : o = 0
   ·subst h3
    simp [show ¬ v = 0 from fun e => h1 e.symm] <;> omega
   ·by_cases h4 : v = 0
    ·subst h4
     simp [h3, show ¬ (0 : Nat) = o from fun e => h3 e.symm] <;> omega
    ·simp [h3, h4, show ¬ v = o from fun e => h1 e.symm] <;> omega
  ·by_cases h3 : o = 0
   ·subst h3
    have h5 : ¬ c = 0 := fun e => h2 e.symm
    by_cases h4 : v = 0
    ·subst h4; simp [h5] <;> omega
    ·simp [h5, h1, h4, show ¬ (0 : Nat) = v from fun e => h4 e.symm, show ¬ (0 : Nat) = c from fun e => h5 e.symm] <;> omega
   ·have h5 : ¬ c = o := fun e => h2 e.symm
    by_cases h4 : o = v
    ·subst h4
     by_cases h6 : c = 0
     ·subst h6; simp [h3, h5] <;> omega
     ·simp [h3, h2, h5, h6] <;> omega
    ·have h7 : ¬ v = o := fun e => h4 e.symm
     by_cases h6 : c = 0
     ·subst h6
      simp [h3, h5, h4, h7, show ¬ (0 : Nat) = v from h1, show ¬ v = 0 from fun e => h1 e.symm] <;> omega
     ·by_cases h8 : v = 0
      ·subst h8; simp [h3, h2, h5, h7, h6] <;> omega
      ·simp [h3, h2, h5, h4, h7, h6, h8, h1] <;> omega
theorem phiN_range (o c : Nat) : -2000 ≤ phiN o c ∧ phiN o c ≤ 19900 := by unfold phiN; split <;> (try split) <;> (try split) <;> omega
theorem bzN_range (o c : Nat) : 0 ≤ bzN o c ∧ bzN o c ≤ 4800 := by unfold bzN; split <;> (try split) <;> omega
theorem bz_step (o c v : Nat) : bzN o v ≤ refundedN o c v + bzN o c := by
 unfold refundedN clearedN restoredN firstN bzN
 by_cases h3 : o = 0
 ·simp only [h3, if_true]
  repeat' split
  all_goals omega
 ·simp only [h3, if_false]
  by_cases h6 : c = 0 <;> by_cases h8 : v = 0
  all_goals simp only [h6, h8, if_true, if_false]
  all_goals repeat' split
  all_goals first | omega | (exfalso; simp_all; done)
structure StG (W : World) (BO BN M o : Nat) (t : Bool) (i c : Nat) (pd bk : Int) (X : World) : Prop where
 im : i ≤ M + 1
 O : Has X BO 24 #[.int .u64 (o : Int), .int .u64 0, .int .u64 0, .int .u64 0]
 N : Has X BN 24 #[.int .u64 (c : Int), .int .u64 0, .int .u64 0, .int .u64 0]
 Q : Below W.heap.size W X
 c4 : c < 4
 e : pd - bk = 100 * (i : Int) + (if t || i == 0 then 0 else 2100) + phiN o c
 b : bzN o c ≤ bk
 bm : bk ≤ 19900 * (i : Int)
 last : i = M + 1 → c = o
theorem stores_num (v : Nat) (h : v < 4) : wv v = .agg #[.int .u64 (v : Int), .int .u64 0, .int .u64 0, .int .u64 0] := wv_natG v (by omega)
theorem store_retG (o c v : Nat) (ho : o < 4) (hc : c < 4) (hv : v < 4) (t : Bool) : Ret Tryd.prog 21 #[.agg #[.int .u64 (o : Int), .int .u64 0, .int .u64 0, .int .u64 0], .agg #[.int .u64 (c : Int), .int .u64 0, .int .u64 0, .int .u64 0], .agg #[.int .u64 (v : Int), .int .u64 0, .int .u64 0, .int .u64 0], .bool t] (.tuple #[.int .i64 (costN o c v t), .int .i64 (refundedN o c v)]) := by
 have h := store_ret o c v (by unfold W256; omega) (by unfold W256; omega) (by unfold W256; omega) t
 rw [stores_num o ho, stores_num c hc, stores_num v hv] at h
 exact h
theorem stores_any (W : World) (x : Int) (hx : I64 x) (v : Value) (zs : List Int) (hz : NumsAt W v zs) (t : Bool) : Calls Tryd.prog 4 #[.int .i64 x, v, .bool t] W fun e w' => e = .returned (.bool true) ∧ Below W.heap.size W w' := by
 have g := pickN_range x 4 (by decide)
 obtain ⟨o, ho⟩ : ∃ o : Nat, pickN x 4 = (o : Int) := ⟨(pickN x 4).toNat, by omega⟩
 have p0 := pick_ret x hx 4 (by decide) (by decide)
 rw [ho] at p0 g
 have HO4 := hid (show o < 4 by omega)
 have HP0 := hid p0
 have HOF := hid (fun (k : Nat) (hk : k < 4) => ofRG k (by omega))
 have HO0 := hid (ofRG o (by omega))
 have HK := hid awakeG_ret
 have HPK := hid (fun (y : Int) (hy : I64 y) => pick_ret y hy 4 (by decide) (by decide))
 have HZ := hid hz
 obtain ⟨a, cap, rfl, hnc, hcm⟩ := hz.shape
 obtain ⟨zn, hzn⟩ : ∃ zn, zs.length = zn := ⟨_, rfl⟩
 rw [hzn] at HZ ⊢
 obtain ⟨M, hM⟩ : ∃ M, min zn 20 = M := ⟨_, rfl⟩
 have HM := hid (And.intro hM (And.intro hzn (show zn ≤ 9223372036854775807 by omega)))
 clear g ho p0 hz hnc hcm hzn hM
 have Q := Below.refl W.heap.size W
 go_enter Tryd.func4, Tryd.ntmps4
 go_wp2_with fail
 refine (HK.out _).mono ?_
 rintro e v1 ⟨rfl, q⟩
 have Q := Q.trans (q.mono Q.size)
 clear q
 go_wp2_with fail
 refine (HP0.out _).mono ?_
 rintro e v2 ⟨rfl, q⟩
 have Q := Q.trans (q.mono Q.size)
 clear q
 go_wp2_with fail
 refine (HO0.out _).mono ?_
 rintro e v3 ⟨rfl, q⟩
 have Q := Q.trans (q.mono Q.size)
 clear q
 have hq3s := Q.size
 have LO := Has.new v3 24 #[.int .u64 (o : Int), .int .u64 0, .int .u64 0, .int .u64 0]
 have k4 := LO.cell 0 _ rfl
 have k5 := LO.cell 1 _ rfl
 have k6 := LO.cell 2 _ rfl
 have k7 := LO.cell 3 _ rfl
 have LO := LO.alloc (.cells #[.int .u64 (o : Int), .int .u64 0, .int .u64 0, .int .u64 0] 24)
 have LN := Has.new (v3.alloc (.cells #[.int .u64 (o : Int), .int .u64 0, .int .u64 0, .int .u64 0] 24)) 24 #[.int .u64 (o : Int), .int .u64 0, .int .u64 0, .int .u64 0]
 simp only [World.size_alloc] at LN
 have k8 := LO.cell 0 _ rfl
 have k9 := LO.cell 1 _ rfl
 have k10 := LO.cell 2 _ rfl
 have k11 := LO.cell 3 _ rfl
 have k12 := LN.cell 0 _ rfl
 have k13 := LN.cell 1 _ rfl
 have k14 := LN.cell 2 _ rfl
 have k15 := LN.cell 3 _ rfl
 have Q := Q.alloc Q.size (.cells #[.int .u64 (o : Int), .int .u64 0, .int .u64 0, .int .u64 0] 24)
 have Q := Q.alloc Q.size (.cells #[.int .u64 (o : Int), .int .u64 0, .int .u64 0, .int .u64 0] 24)
 go_wp2_with fail
 clear k4 k5 k6 k7 k8 k9 k10 k11 k12 k13 k14 k15
 obtain ⟨W1, hW1⟩ : ∃ W1, ((v3.alloc (.cells #[.int .u64 (o : Int), .int .u64 0, .int .u64 0, .int .u64 0] 24)).alloc (.cells #[.int .u64 (o : Int), .int .u64 0, .int .u64 0, .int .u64 0] 24)) = W1 := ⟨_, rfl⟩
 rw [hW1] at LO LN Q ⊢
 clear hW1
 have HB1 := hid (show W.heap.size ≤ v3.heap.size from hq3s)
 generalize v3.heap.size = b1 at *
 obtain ⟨BO, hBO⟩ : ∃ BO, b1 = BO := ⟨_, rfl⟩
 obtain ⟨BN, hBN⟩ : ∃ BN, b1 + 1 = BN := ⟨_, rfl⟩
 have HNE := hid (show BO ≠ BN by omega)
 rw [hBO] at LO
 rw [hBN] at LN
 rw [hBN]
 rw [hBO]
 have HLE := hid (show W.heap.size ≤ BO ∧ W.heap.size ≤ BN from ⟨by rw [← hBO]; exact HB1.out, by rw [← hBN]; have := HB1.out; omega⟩)
 have HST0 := hid (show StG W BO BN M o t 0 o 0 0 W1 from ⟨by omega, LO, LN, Q, HO4.out, by unfold phiN; simp, by unfold bzN; split <;> (try split) <;> (first | omega | (exfalso; have := HO4.out; omega)), by omega, fun _ => rfl⟩)
 clear hBO hBN LO LN Q HB1
 go_loopw [10, 11, 12, 13] (fun pv bv mv iv wr => ∃ (i c : Nat) (pd bk : Int), pv = .int .i64 pd ∧ bv = .int .i64 bk ∧ mv = .int .i64 (i : Int) ∧ iv = .int .i64 (i : Int) ∧ StG W BO BN M o t i c pd bk wr) (fun _ _ _ iv _ => M + 1 - (intOf iv).toNat)
 case atStart => exact ⟨0, o, 0, 0, rfl, rfl, rfl, rfl, HST0.out⟩
 case round =>
  clear HST0
  obtain ⟨i, c, pd, bk, rfl, rfl, rfl, rfl, hst⟩ := hrel
  have hi0 : (0 : Int) ≤ (i : Int) := by omega
  have hi22 : (i : Int) ≤ 21 := by have := hst.im; have := HM.out.1; omega
  have he := hst.e
  have hph := phiN_range o c
  have hb := hst.b
  have hbz := bzN_range o c
  have hbm := hst.bm
  have hpd : -1000000 ≤ pd ∧ pd ≤ 1000000 := by
   revert he
   split <;> intro he <;> omega
  obtain ⟨pd0, pd1⟩ := hpd
  have bk0 : 0 ≤ bk := by omega
  have bk1 : bk ≤ 1000000 := by omega
  have HE := hid he
  have HBB := hid (And.intro hb hbm)
  clear he hb hbm hph hbz
  by_cases hiM : i ≤ M
  ·have i1 : (i : Int) ≤ (zn : Int) := by have := HM.out.1; omega
   have i2 : (i : Int) ≤ 20 := by have := HM.out.1; omega
   have HIM := hid hiM
   have tbs : (t = true ∧ (0 : Int) ≤ (i : Int)) ∨ (t = false ∧ ¬ (0 : Int) < (i : Int)) ∨ (t = false ∧ (0 : Int) < (i : Int)) := by
    cases t
    ·by_cases h : (0 : Int) < (i : Int)
     ·exact .inr (.inr ⟨rfl, h⟩)
     ·exact .inr (.inl ⟨rfl, h⟩)
    ·exact .inl ⟨rfl, hi0⟩
   by_cases hmid : i < M
   ·skip
    have m1 : (i : Int) < (zn : Int) := by have := HM.out.1; omega
    have m2 : (i : Int) < 20 := by have := HM.out.1; omega
    obtain ⟨y, hy⟩ : ∃ y, zs[i]? = some y := ⟨_, List.getElem?_eq_getElem (by have := HM.out; omega)⟩
    obtain ⟨hy64, b0, rfl, _⟩ := HZ.out.at hy
    have hcell := fun (X : World) (hX : Below W.heap.size W X) => (show X.cell? (b0.add i) = some (.int .i64 y) from by
     obtain ⟨_, b', e', h'⟩ := (HZ.out.later hX).at hy
     injection e' with e'
     subst e'
     exact h')
    have HCL := hid hcell
    have gq := pickN_range y 4 (by decide)
    have HP := hid (HPK.out y hy64)
    obtain ⟨q, hq⟩ : ∃ q : Nat, pickN y 4 = (q : Int) := ⟨(pickN y 4).toNat, by omega⟩
    rw [hq] at HP gq
    have HQ4 := hid (show q < 4 by omega)
    have HO := hid (HOF.out q HQ4.out)
    have HMID := hid hmid
    clear hcell gq hq hy hmid
    rcases tbs with ⟨rfl, hI⟩ | ⟨rfl, hI⟩ | ⟨rfl, hI⟩
    ·skip
     have HSTEP0 := phi_step o c q true
     have hbz0 := bz_step o c q
     have hrr0 := refundedN_range o c q
     have hcr := writtenN_range o c q
     have HST := hid (store_retG o c q HO4.out hst.c4 HQ4.out true)
     have hcc : 100 ≤ costN o c q true ∧ costN o c q true ≤ 22100 := by unfold costN; simp; omega
     obtain ⟨C, hC⟩ : ∃ C, costN o c q true = C := ⟨_, rfl⟩
     obtain ⟨R, hR⟩ : ∃ R, refundedN o c q = R := ⟨_, rfl⟩
     rw [hC] at HST hcc HSTEP0
     rw [hR] at HST hrr0 HSTEP0 hbz0
     have HRR := hid hrr0
     obtain ⟨C0, C1⟩ := hcc
     obtain ⟨R0, R1⟩ := hrr0
     have HSTEP := hid HSTEP0
     have HBZ := hid (show bzN o q ≤ bk + R by have := HBB.out.1; omega)
     have hbzv := bzN_range o q
     have hnb : ¬ bk + R < 0 := by have := HBZ.out; omega
     have hnb2 : 0 ≤ bk + R := by omega
     clear HSTEP0 hbz0 hcr hC hR hbzv
     have hne := HNE.out
     have hle := HLE.out
     have hbo : BO < wr.heap.size := hst.O.lt
     have hbn : BN < wr.heap.size := hst.N.lt
     have LO := hst.O
     have LN := hst.N
     have Q := hst.Q
     have k1 := LO.cell 0 _ rfl
     have k2 := LO.cell 1 _ rfl
     have k3 := LO.cell 2 _ rfl
     have k4 := LO.cell 3 _ rfl
     have k5 := LN.cell 0 _ rfl
     have k6 := LN.cell 1 _ rfl
     have k7 := LN.cell 2 _ rfl
     have k8 := LN.cell 3 _ rfl
     have LO := LO.alloc (.cells #[.int .u64 (o : Int), .int .u64 0, .int .u64 0, .int .u64 0] 24)
     have LN := LN.alloc (.cells #[.int .u64 (o : Int), .int .u64 0, .int .u64 0, .int .u64 0] 24)
     have LV := Has.new wr 24 #[.int .u64 (o : Int), .int .u64 0, .int .u64 0, .int .u64 0]
     have k9 := LO.cell 0 _ rfl
     have k10 := LO.cell 1 _ rfl
     have k11 := LO.cell 2 _ rfl
     have k12 := LO.cell 3 _ rfl
     have k13 := LN.cell 0 _ rfl
     have k14 := LN.cell 1 _ rfl
     have k15 := LN.cell 2 _ rfl
     have k16 := LN.cell 3 _ rfl
     have k17 := LV.cell 0 _ rfl
     have k18 := LV.cell 1 _ rfl
     have k19 := LV.cell 2 _ rfl
     have k20 := LV.cell 3 _ rfl
     have Q := Q.alloc Q.size (.cells #[.int .u64 (o : Int), .int .u64 0, .int .u64 0, .int .u64 0] 24)
     have kz := HCL.out _ Q
     go_wp2_with fail
     clear kz
     clear k1 k2 k3 k4 k5 k6 k7 k8 k9 k10 k11 k12 k13 k14 k15 k16 k17 k18 k19 k20
     obtain ⟨W1, hW1⟩ : ∃ W1, (wr.alloc (.cells #[.int .u64 (o : Int), .int .u64 0, .int .u64 0, .int .u64 0] 24)) = W1 := ⟨_, rfl⟩
     rw [hW1] at LO LN LV Q ⊢
     clear hW1
     generalize wr.heap.size = b1 at *
     refine (HP.out _).mono ?_
     rintro e v21 ⟨rfl, q⟩
     have LO := LO.later q
     have LN := LN.later q
     have LV := LV.later q
     have Q := Q.trans (q.mono Q.size)
     clear q
     have k22 := LO.cell 0 _ rfl
     have k23 := LO.cell 1 _ rfl
     have k24 := LO.cell 2 _ rfl
     have k25 := LO.cell 3 _ rfl
     have k26 := LN.cell 0 _ rfl
     have k27 := LN.cell 1 _ rfl
     have k28 := LN.cell 2 _ rfl
     have k29 := LN.cell 3 _ rfl
     have k30 := LV.cell 0 _ rfl
     have k31 := LV.cell 1 _ rfl
     have k32 := LV.cell 2 _ rfl
     have k33 := LV.cell 3 _ rfl
     go_wp2_with fail
     clear k22 k23 k24 k25 k26 k27 k28 k29 k30 k31 k32 k33
     refine (HO.out _).mono ?_
     rintro e v34 ⟨rfl, q⟩
     have LO := LO.later q
     have LN := LN.later q
     have LV := LV.later q
     have Q := Q.trans (q.mono Q.size)
     clear q
     have hlo := LO.lt
     have hln := LN.lt
     have k35 := LO.cell 0 _ rfl
     have k36 := LO.cell 1 _ rfl
     have k37 := LO.cell 2 _ rfl
     have k38 := LO.cell 3 _ rfl
     have k39 := LN.cell 0 _ rfl
     have k40 := LN.cell 1 _ rfl
     have k41 := LN.cell 2 _ rfl
     have k42 := LN.cell 3 _ rfl
     have k43 := LV.cell 0 _ rfl
     have k44 := LV.cell 1 _ rfl
     have k45 := LV.cell 2 _ rfl
     have k46 := LV.cell 3 _ rfl
     obtain ⟨U2, hU2⟩ : ∃ U2, v34.setRow b1 #[.int .u64 (q : Int), .int .u64 0, .int .u64 0, .int .u64 0] = U2 := ⟨_, rfl⟩
     have hzU2 := LV
     have hiU2 : (Tryd.prog.info? 24).map (·.size) = some (#[.int .u64 (q : Int), .int .u64 0, .int .u64 0, .int .u64 0] : Array Value).size := by kernel_rfl
     have hoU2 : (#[.int .u64 (o : Int), .int .u64 0, .int .u64 0, .int .u64 0] : Array Value).size = (#[.int .u64 (q : Int), .int .u64 0, .int .u64 0, .int .u64 0] : Array Value).size := rfl
     have haU2 : (#[.int .u64 (q : Int), .int .u64 0, .int .u64 0, .int .u64 0] : Array Value).all (·.oneCell') = true := by simp [Value.oneCell']
     have LO := LO.rowOtherG (B := b1) (cs' := #[.int .u64 (q : Int), .int .u64 0, .int .u64 0, .int .u64 0]) (by show BO ≠ b1; omega)
     have LN := LN.rowOtherG (B := b1) (cs' := #[.int .u64 (q : Int), .int .u64 0, .int .u64 0, .int .u64 0]) (by show BN ≠ b1; omega)
     have LV := LV.rowG (cs' := #[.int .u64 (q : Int), .int .u64 0, .int .u64 0, .int .u64 0])
     have Q := below_rowG Q (g := b1) (by show W.heap.size ≤ b1; omega) #[.int .u64 (q : Int), .int .u64 0, .int .u64 0, .int .u64 0]
     rw [hU2] at LO LN LV Q
     have k47 := LO.cell 0 _ rfl
     have k48 := LO.cell 1 _ rfl
     have k49 := LO.cell 2 _ rfl
     have k50 := LO.cell 3 _ rfl
     have k51 := LN.cell 0 _ rfl
     have k52 := LN.cell 1 _ rfl
     have k53 := LN.cell 2 _ rfl
     have k54 := LN.cell 3 _ rfl
     have k55 := LV.cell 0 _ rfl
     have k56 := LV.cell 1 _ rfl
     have k57 := LV.cell 2 _ rfl
     have k58 := LV.cell 3 _ rfl
     go_wp2_with (refine wpList_store_row rfl _ (.tmp 14) (.tmp 47) rfl _ _ rfl rfl _ _ hzU2 hiU2 hoU2 haU2 ?_; rw [hU2])
     clear k35 k36 k37 k38 k39 k40 k41 k42 k43 k44 k45 k46 k47 k48 k49 k50 k51 k52 k53 k54 k55 k56 k57 k58 hU2 hzU2 hiU2 hoU2 haU2
     have k59 := LO.cell 0 _ rfl
     have k60 := LO.cell 1 _ rfl
     have k61 := LO.cell 2 _ rfl
     have k62 := LO.cell 3 _ rfl
     have k63 := LN.cell 0 _ rfl
     have k64 := LN.cell 1 _ rfl
     have k65 := LN.cell 2 _ rfl
     have k66 := LN.cell 3 _ rfl
     have k67 := LV.cell 0 _ rfl
     have k68 := LV.cell 1 _ rfl
     have k69 := LV.cell 2 _ rfl
     have k70 := LV.cell 3 _ rfl
     go_wp2_with fail
     clear k59 k60 k61 k62 k63 k64 k65 k66 k67 k68 k69 k70
     refine (HST.out _).mono ?_
     rintro e v71 ⟨rfl, q⟩
     have LO := LO.later q
     have LN := LN.later q
     have LV := LV.later q
     have Q := Q.trans (q.mono Q.size)
     clear q
     have hlo := LO.lt
     have hln := LN.lt
     have k72 := LO.cell 0 _ rfl
     have k73 := LO.cell 1 _ rfl
     have k74 := LO.cell 2 _ rfl
     have k75 := LO.cell 3 _ rfl
     have k76 := LN.cell 0 _ rfl
     have k77 := LN.cell 1 _ rfl
     have k78 := LN.cell 2 _ rfl
     have k79 := LN.cell 3 _ rfl
     have k80 := LV.cell 0 _ rfl
     have k81 := LV.cell 1 _ rfl
     have k82 := LV.cell 2 _ rfl
     have k83 := LV.cell 3 _ rfl
     obtain ⟨U3, hU3⟩ : ∃ U3, v71.setRow BN #[.int .u64 (q : Int), .int .u64 0, .int .u64 0, .int .u64 0] = U3 := ⟨_, rfl⟩
     have hzU3 := LN
     have hiU3 : (Tryd.prog.info? 24).map (·.size) = some (#[.int .u64 (q : Int), .int .u64 0, .int .u64 0, .int .u64 0] : Array Value).size := by kernel_rfl
     have hoU3 : (#[.int .u64 (c : Int), .int .u64 0, .int .u64 0, .int .u64 0] : Array Value).size = (#[.int .u64 (q : Int), .int .u64 0, .int .u64 0, .int .u64 0] : Array Value).size := rfl
     have haU3 : (#[.int .u64 (q : Int), .int .u64 0, .int .u64 0, .int .u64 0] : Array Value).all (·.oneCell') = true := by simp [Value.oneCell']
     have LO := LO.rowOtherG (B := BN) (cs' := #[.int .u64 (q : Int), .int .u64 0, .int .u64 0, .int .u64 0]) (HNE.out)
     have LN := LN.rowG (cs' := #[.int .u64 (q : Int), .int .u64 0, .int .u64 0, .int .u64 0])
     have LV := LV.rowOtherG (B := BN) (cs' := #[.int .u64 (q : Int), .int .u64 0, .int .u64 0, .int .u64 0]) (by show b1 ≠ BN; omega)
     have Q := below_rowG Q (g := BN) (HLE.out.2) #[.int .u64 (q : Int), .int .u64 0, .int .u64 0, .int .u64 0]
     rw [hU3] at LO LN LV Q
     have k84 := LO.cell 0 _ rfl
     have k85 := LO.cell 1 _ rfl
     have k86 := LO.cell 2 _ rfl
     have k87 := LO.cell 3 _ rfl
     have k88 := LN.cell 0 _ rfl
     have k89 := LN.cell 1 _ rfl
     have k90 := LN.cell 2 _ rfl
     have k91 := LN.cell 3 _ rfl
     have k92 := LV.cell 0 _ rfl
     have k93 := LV.cell 1 _ rfl
     have k94 := LV.cell 2 _ rfl
     have k95 := LV.cell 3 _ rfl
     go_wp2_with (refine wpList_store_row rfl _ (.tmp 9) (.tmp 70) rfl _ _ rfl rfl _ _ hzU3 hiU3 hoU3 haU3 ?_; rw [hU3])
     clear k72 k73 k74 k75 k76 k77 k78 k79 k80 k81 k82 k83 k84 k85 k86 k87 k88 k89 k90 k91 k92 k93 k94 k95 hU3 hzU3 hiU3 hoU3 haU3
     go_roundw
     case rel => exact ⟨i + 1, q, _, _, rfl, rfl, by simp, by simp, by have := HIM.out; omega, LO, LN, Q, HQ4.out, by have h1 := HSTEP.out; have h2 := HE.out; push_cast; simp at h1 h2 ⊢; omega, HBZ.out, by have := HRR.out; have := HBB.out; push_cast; omega, fun hh => by have := HMID.out; omega⟩
     case measure => have := HIM.out; simp [intOf]; omega
    ·skip
     have hIn : ¬ 0 < i := by omega
     have HSTEP0 := phi_step o c q false
     have hbz0 := bz_step o c q
     have hrr0 := refundedN_range o c q
     have hcr := writtenN_range o c q
     have HST := hid (store_retG o c q HO4.out hst.c4 HQ4.out false)
     have hcc : 100 ≤ costN o c q false ∧ costN o c q false ≤ 22100 := by unfold costN; simp; omega
     obtain ⟨C, hC⟩ : ∃ C, costN o c q false = C := ⟨_, rfl⟩
     obtain ⟨R, hR⟩ : ∃ R, refundedN o c q = R := ⟨_, rfl⟩
     rw [hC] at HST hcc HSTEP0
     rw [hR] at HST hrr0 HSTEP0 hbz0
     have HRR := hid hrr0
     obtain ⟨C0, C1⟩ := hcc
     obtain ⟨R0, R1⟩ := hrr0
     have HSTEP := hid HSTEP0
     have HBZ := hid (show bzN o q ≤ bk + R by have := HBB.out.1; omega)
     have hbzv := bzN_range o q
     have hnb : ¬ bk + R < 0 := by have := HBZ.out; omega
     have hnb2 : 0 ≤ bk + R := by omega
     clear HSTEP0 hbz0 hcr hC hR hbzv
     have hne := HNE.out
     have hle := HLE.out
     have hbo : BO < wr.heap.size := hst.O.lt
     have hbn : BN < wr.heap.size := hst.N.lt
     have LO := hst.O
     have LN := hst.N
     have Q := hst.Q
     have k1 := LO.cell 0 _ rfl
     have k2 := LO.cell 1 _ rfl
     have k3 := LO.cell 2 _ rfl
     have k4 := LO.cell 3 _ rfl
     have k5 := LN.cell 0 _ rfl
     have k6 := LN.cell 1 _ rfl
     have k7 := LN.cell 2 _ rfl
     have k8 := LN.cell 3 _ rfl
     have LO := LO.alloc (.cells #[.int .u64 (o : Int), .int .u64 0, .int .u64 0, .int .u64 0] 24)
     have LN := LN.alloc (.cells #[.int .u64 (o : Int), .int .u64 0, .int .u64 0, .int .u64 0] 24)
     have LV := Has.new wr 24 #[.int .u64 (o : Int), .int .u64 0, .int .u64 0, .int .u64 0]
     have k9 := LO.cell 0 _ rfl
     have k10 := LO.cell 1 _ rfl
     have k11 := LO.cell 2 _ rfl
     have k12 := LO.cell 3 _ rfl
     have k13 := LN.cell 0 _ rfl
     have k14 := LN.cell 1 _ rfl
     have k15 := LN.cell 2 _ rfl
     have k16 := LN.cell 3 _ rfl
     have k17 := LV.cell 0 _ rfl
     have k18 := LV.cell 1 _ rfl
     have k19 := LV.cell 2 _ rfl
     have k20 := LV.cell 3 _ rfl
     have Q := Q.alloc Q.size (.cells #[.int .u64 (o : Int), .int .u64 0, .int .u64 0, .int .u64 0] 24)
     have kz := HCL.out _ Q
     go_wp2_with fail
     clear kz
     clear k1 k2 k3 k4 k5 k6 k7 k8 k9 k10 k11 k12 k13 k14 k15 k16 k17 k18 k19 k20
     obtain ⟨W1, hW1⟩ : ∃ W1, (wr.alloc (.cells #[.int .u64 (o : Int), .int .u64 0, .int .u64 0, .int .u64 0] 24)) = W1 := ⟨_, rfl⟩
     rw [hW1] at LO LN LV Q ⊢
     clear hW1
     generalize wr.heap.size = b1 at *
     refine (HP.out _).mono ?_
     rintro e v21 ⟨rfl, q⟩
     have LO := LO.later q
     have LN := LN.later q
     have LV := LV.later q
     have Q := Q.trans (q.mono Q.size)
     clear q
     have k22 := LO.cell 0 _ rfl
     have k23 := LO.cell 1 _ rfl
     have k24 := LO.cell 2 _ rfl
     have k25 := LO.cell 3 _ rfl
     have k26 := LN.cell 0 _ rfl
     have k27 := LN.cell 1 _ rfl
     have k28 := LN.cell 2 _ rfl
     have k29 := LN.cell 3 _ rfl
     have k30 := LV.cell 0 _ rfl
     have k31 := LV.cell 1 _ rfl
     have k32 := LV.cell 2 _ rfl
     have k33 := LV.cell 3 _ rfl
     go_wp2_with fail
     clear k22 k23 k24 k25 k26 k27 k28 k29 k30 k31 k32 k33
     refine (HO.out _).mono ?_
     rintro e v34 ⟨rfl, q⟩
     have LO := LO.later q
     have LN := LN.later q
     have LV := LV.later q
     have Q := Q.trans (q.mono Q.size)
     clear q
     have hlo := LO.lt
     have hln := LN.lt
     have k35 := LO.cell 0 _ rfl
     have k36 := LO.cell 1 _ rfl
     have k37 := LO.cell 2 _ rfl
     have k38 := LO.cell 3 _ rfl
     have k39 := LN.cell 0 _ rfl
     have k40 := LN.cell 1 _ rfl
     have k41 := LN.cell 2 _ rfl
     have k42 := LN.cell 3 _ rfl
     have k43 := LV.cell 0 _ rfl
     have k44 := LV.cell 1 _ rfl
     have k45 := LV.cell 2 _ rfl
     have k46 := LV.cell 3 _ rfl
     obtain ⟨U2, hU2⟩ : ∃ U2, v34.setRow b1 #[.int .u64 (q : Int), .int .u64 0, .int .u64 0, .int .u64 0] = U2 := ⟨_, rfl⟩
     have hzU2 := LV
     have hiU2 : (Tryd.prog.info? 24).map (·.size) = some (#[.int .u64 (q : Int), .int .u64 0, .int .u64 0, .int .u64 0] : Array Value).size := by kernel_rfl
     have hoU2 : (#[.int .u64 (o : Int), .int .u64 0, .int .u64 0, .int .u64 0] : Array Value).size = (#[.int .u64 (q : Int), .int .u64 0, .int .u64 0, .int .u64 0] : Array Value).size := rfl
     have haU2 : (#[.int .u64 (q : Int), .int .u64 0, .int .u64 0, .int .u64 0] : Array Value).all (·.oneCell') = true := by simp [Value.oneCell']
     have LO := LO.rowOtherG (B := b1) (cs' := #[.int .u64 (q : Int), .int .u64 0, .int .u64 0, .int .u64 0]) (by show BO ≠ b1; omega)
     have LN := LN.rowOtherG (B := b1) (cs' := #[.int .u64 (q : Int), .int .u64 0, .int .u64 0, .int .u64 0]) (by show BN ≠ b1; omega)
     have LV := LV.rowG (cs' := #[.int .u64 (q : Int), .int .u64 0, .int .u64 0, .int .u64 0])
     have Q := below_rowG Q (g := b1) (by show W.heap.size ≤ b1; omega) #[.int .u64 (q : Int), .int .u64 0, .int .u64 0, .int .u64 0]
     rw [hU2] at LO LN LV Q
     have k47 := LO.cell 0 _ rfl
     have k48 := LO.cell 1 _ rfl
     have k49 := LO.cell 2 _ rfl
     have k50 := LO.cell 3 _ rfl
     have k51 := LN.cell 0 _ rfl
     have k52 := LN.cell 1 _ rfl
     have k53 := LN.cell 2 _ rfl
     have k54 := LN.cell 3 _ rfl
     have k55 := LV.cell 0 _ rfl
     have k56 := LV.cell 1 _ rfl
     have k57 := LV.cell 2 _ rfl
     have k58 := LV.cell 3 _ rfl
     go_wp2_with (refine wpList_store_row rfl _ (.tmp 14) (.tmp 47) rfl _ _ rfl rfl _ _ hzU2 hiU2 hoU2 haU2 ?_; rw [hU2])
     clear k35 k36 k37 k38 k39 k40 k41 k42 k43 k44 k45 k46 k47 k48 k49 k50 k51 k52 k53 k54 k55 k56 k57 k58 hU2 hzU2 hiU2 hoU2 haU2
     have k59 := LO.cell 0 _ rfl
     have k60 := LO.cell 1 _ rfl
     have k61 := LO.cell 2 _ rfl
     have k62 := LO.cell 3 _ rfl
     have k63 := LN.cell 0 _ rfl
     have k64 := LN.cell 1 _ rfl
     have k65 := LN.cell 2 _ rfl
     have k66 := LN.cell 3 _ rfl
     have k67 := LV.cell 0 _ rfl
     have k68 := LV.cell 1 _ rfl
     have k69 := LV.cell 2 _ rfl
     have k70 := LV.cell 3 _ rfl
     go_wp2_with fail
     clear k59 k60 k61 k62 k63 k64 k65 k66 k67 k68 k69 k70
     refine (HST.out _).mono ?_
     rintro e v71 ⟨rfl, q⟩
     have LO := LO.later q
     have LN := LN.later q
     have LV := LV.later q
     have Q := Q.trans (q.mono Q.size)
     clear q
     have hlo := LO.lt
     have hln := LN.lt
     have k72 := LO.cell 0 _ rfl
     have k73 := LO.cell 1 _ rfl
     have k74 := LO.cell 2 _ rfl
     have k75 := LO.cell 3 _ rfl
     have k76 := LN.cell 0 _ rfl
     have k77 := LN.cell 1 _ rfl
     have k78 := LN.cell 2 _ rfl
     have k79 := LN.cell 3 _ rfl
     have k80 := LV.cell 0 _ rfl
     have k81 := LV.cell 1 _ rfl
     have k82 := LV.cell 2 _ rfl
     have k83 := LV.cell 3 _ rfl
     obtain ⟨U3, hU3⟩ : ∃ U3, v71.setRow BN #[.int .u64 (q : Int), .int .u64 0, .int .u64 0, .int .u64 0] = U3 := ⟨_, rfl⟩
     have hzU3 := LN
     have hiU3 : (Tryd.prog.info? 24).map (·.size) = some (#[.int .u64 (q : Int), .int .u64 0, .int .u64 0, .int .u64 0] : Array Value).size := by kernel_rfl
     have hoU3 : (#[.int .u64 (c : Int), .int .u64 0, .int .u64 0, .int .u64 0] : Array Value).size = (#[.int .u64 (q : Int), .int .u64 0, .int .u64 0, .int .u64 0] : Array Value).size := rfl
     have haU3 : (#[.int .u64 (q : Int), .int .u64 0, .int .u64 0, .int .u64 0] : Array Value).all (·.oneCell') = true := by simp [Value.oneCell']
     have LO := LO.rowOtherG (B := BN) (cs' := #[.int .u64 (q : Int), .int .u64 0, .int .u64 0, .int .u64 0]) (HNE.out)
     have LN := LN.rowG (cs' := #[.int .u64 (q : Int), .int .u64 0, .int .u64 0, .int .u64 0])
     have LV := LV.rowOtherG (B := BN) (cs' := #[.int .u64 (q : Int), .int .u64 0, .int .u64 0, .int .u64 0]) (by show b1 ≠ BN; omega)
     have Q := below_rowG Q (g := BN) (HLE.out.2) #[.int .u64 (q : Int), .int .u64 0, .int .u64 0, .int .u64 0]
     rw [hU3] at LO LN LV Q
     have k84 := LO.cell 0 _ rfl
     have k85 := LO.cell 1 _ rfl
     have k86 := LO.cell 2 _ rfl
     have k87 := LO.cell 3 _ rfl
     have k88 := LN.cell 0 _ rfl
     have k89 := LN.cell 1 _ rfl
     have k90 := LN.cell 2 _ rfl
     have k91 := LN.cell 3 _ rfl
     have k92 := LV.cell 0 _ rfl
     have k93 := LV.cell 1 _ rfl
     have k94 := LV.cell 2 _ rfl
     have k95 := LV.cell 3 _ rfl
     go_wp2_with (refine wpList_store_row rfl _ (.tmp 9) (.tmp 70) rfl _ _ rfl rfl _ _ hzU3 hiU3 hoU3 haU3 ?_; rw [hU3])
     clear k72 k73 k74 k75 k76 k77 k78 k79 k80 k81 k82 k83 k84 k85 k86 k87 k88 k89 k90 k91 k92 k93 k94 k95 hU3 hzU3 hiU3 hoU3 haU3
     go_roundw
     case rel => exact ⟨i + 1, q, _, _, rfl, rfl, by simp, by simp, by have := HIM.out; omega, LO, LN, Q, HQ4.out, by have h1 := HSTEP.out; have h2 := HE.out; push_cast; simp at h1 h2 ⊢; omega, HBZ.out, by have := HRR.out; have := HBB.out; push_cast; omega, fun hh => by have := HMID.out; omega⟩
     case measure => have := HIM.out; simp [intOf]; omega
    ·skip
     have hIn : 0 < i := by omega
     have HSTEP0 := phi_step o c q true
     have hbz0 := bz_step o c q
     have hrr0 := refundedN_range o c q
     have hcr := writtenN_range o c q
     have HST := hid (store_retG o c q HO4.out hst.c4 HQ4.out true)
     have hcc : 100 ≤ costN o c q true ∧ costN o c q true ≤ 22100 := by unfold costN; simp; omega
     obtain ⟨C, hC⟩ : ∃ C, costN o c q true = C := ⟨_, rfl⟩
     obtain ⟨R, hR⟩ : ∃ R, refundedN o c q = R := ⟨_, rfl⟩
     rw [hC] at HST hcc HSTEP0
     rw [hR] at HST hrr0 HSTEP0 hbz0
     have HRR := hid hrr0
     obtain ⟨C0, C1⟩ := hcc
     obtain ⟨R0, R1⟩ := hrr0
     have HSTEP := hid HSTEP0
     have HBZ := hid (show bzN o q ≤ bk + R by have := HBB.out.1; omega)
     have hbzv := bzN_range o q
     have hnb : ¬ bk + R < 0 := by have := HBZ.out; omega
     have hnb2 : 0 ≤ bk + R := by omega
     clear HSTEP0 hbz0 hcr hC hR hbzv
     have hne := HNE.out
     have hle := HLE.out
     have hbo : BO < wr.heap.size := hst.O.lt
     have hbn : BN < wr.heap.size := hst.N.lt
     have LO := hst.O
     have LN := hst.N
     have Q := hst.Q
     have k1 := LO.cell 0 _ rfl
     have k2 := LO.cell 1 _ rfl
     have k3 := LO.cell 2 _ rfl
     have k4 := LO.cell 3 _ rfl
     have k5 := LN.cell 0 _ rfl
     have k6 := LN.cell 1 _ rfl
     have k7 := LN.cell 2 _ rfl
     have k8 := LN.cell 3 _ rfl
     have LO := LO.alloc (.cells #[.int .u64 (o : Int), .int .u64 0, .int .u64 0, .int .u64 0] 24)
     have LN := LN.alloc (.cells #[.int .u64 (o : Int), .int .u64 0, .int .u64 0, .int .u64 0] 24)
     have LV := Has.new wr 24 #[.int .u64 (o : Int), .int .u64 0, .int .u64 0, .int .u64 0]
     have k9 := LO.cell 0 _ rfl
     have k10 := LO.cell 1 _ rfl
     have k11 := LO.cell 2 _ rfl
     have k12 := LO.cell 3 _ rfl
     have k13 := LN.cell 0 _ rfl
     have k14 := LN.cell 1 _ rfl
     have k15 := LN.cell 2 _ rfl
     have k16 := LN.cell 3 _ rfl
     have k17 := LV.cell 0 _ rfl
     have k18 := LV.cell 1 _ rfl
     have k19 := LV.cell 2 _ rfl
     have k20 := LV.cell 3 _ rfl
     have Q := Q.alloc Q.size (.cells #[.int .u64 (o : Int), .int .u64 0, .int .u64 0, .int .u64 0] 24)
     have kz := HCL.out _ Q
     go_wp2_with fail
     clear kz
     clear k1 k2 k3 k4 k5 k6 k7 k8 k9 k10 k11 k12 k13 k14 k15 k16 k17 k18 k19 k20
     obtain ⟨W1, hW1⟩ : ∃ W1, (wr.alloc (.cells #[.int .u64 (o : Int), .int .u64 0, .int .u64 0, .int .u64 0] 24)) = W1 := ⟨_, rfl⟩
     rw [hW1] at LO LN LV Q ⊢
     clear hW1
     generalize wr.heap.size = b1 at *
     refine (HP.out _).mono ?_
     rintro e v21 ⟨rfl, q⟩
     have LO := LO.later q
     have LN := LN.later q
     have LV := LV.later q
     have Q := Q.trans (q.mono Q.size)
     clear q
     have k22 := LO.cell 0 _ rfl
     have k23 := LO.cell 1 _ rfl
     have k24 := LO.cell 2 _ rfl
     have k25 := LO.cell 3 _ rfl
     have k26 := LN.cell 0 _ rfl
     have k27 := LN.cell 1 _ rfl
     have k28 := LN.cell 2 _ rfl
     have k29 := LN.cell 3 _ rfl
     have k30 := LV.cell 0 _ rfl
     have k31 := LV.cell 1 _ rfl
     have k32 := LV.cell 2 _ rfl
     have k33 := LV.cell 3 _ rfl
     go_wp2_with fail
     clear k22 k23 k24 k25 k26 k27 k28 k29 k30 k31 k32 k33
     refine (HO.out _).mono ?_
     rintro e v34 ⟨rfl, q⟩
     have LO := LO.later q
     have LN := LN.later q
     have LV := LV.later q
     have Q := Q.trans (q.mono Q.size)
     clear q
     have hlo := LO.lt
     have hln := LN.lt
     have k35 := LO.cell 0 _ rfl
     have k36 := LO.cell 1 _ rfl
     have k37 := LO.cell 2 _ rfl
     have k38 := LO.cell 3 _ rfl
     have k39 := LN.cell 0 _ rfl
     have k40 := LN.cell 1 _ rfl
     have k41 := LN.cell 2 _ rfl
     have k42 := LN.cell 3 _ rfl
     have k43 := LV.cell 0 _ rfl
     have k44 := LV.cell 1 _ rfl
     have k45 := LV.cell 2 _ rfl
     have k46 := LV.cell 3 _ rfl
     obtain ⟨U2, hU2⟩ : ∃ U2, v34.setRow b1 #[.int .u64 (q : Int), .int .u64 0, .int .u64 0, .int .u64 0] = U2 := ⟨_, rfl⟩
     have hzU2 := LV
     have hiU2 : (Tryd.prog.info? 24).map (·.size) = some (#[.int .u64 (q : Int), .int .u64 0, .int .u64 0, .int .u64 0] : Array Value).size := by kernel_rfl
     have hoU2 : (#[.int .u64 (o : Int), .int .u64 0, .int .u64 0, .int .u64 0] : Array Value).size = (#[.int .u64 (q : Int), .int .u64 0, .int .u64 0, .int .u64 0] : Array Value).size := rfl
     have haU2 : (#[.int .u64 (q : Int), .int .u64 0, .int .u64 0, .int .u64 0] : Array Value).all (·.oneCell') = true := by simp [Value.oneCell']
     have LO := LO.rowOtherG (B := b1) (cs' := #[.int .u64 (q : Int), .int .u64 0, .int .u64 0, .int .u64 0]) (by show BO ≠ b1; omega)
     have LN := LN.rowOtherG (B := b1) (cs' := #[.int .u64 (q : Int), .int .u64 0, .int .u64 0, .int .u64 0]) (by show BN ≠ b1; omega)
     have LV := LV.rowG (cs' := #[.int .u64 (q : Int), .int .u64 0, .int .u64 0, .int .u64 0])
     have Q := below_rowG Q (g := b1) (by show W.heap.size ≤ b1; omega) #[.int .u64 (q : Int), .int .u64 0, .int .u64 0, .int .u64 0]
     rw [hU2] at LO LN LV Q
     have k47 := LO.cell 0 _ rfl
     have k48 := LO.cell 1 _ rfl
     have k49 := LO.cell 2 _ rfl
     have k50 := LO.cell 3 _ rfl
     have k51 := LN.cell 0 _ rfl
     have k52 := LN.cell 1 _ rfl
     have k53 := LN.cell 2 _ rfl
     have k54 := LN.cell 3 _ rfl
     have k55 := LV.cell 0 _ rfl
     have k56 := LV.cell 1 _ rfl
     have k57 := LV.cell 2 _ rfl
     have k58 := LV.cell 3 _ rfl
     go_wp2_with (refine wpList_store_row rfl _ (.tmp 14) (.tmp 47) rfl _ _ rfl rfl _ _ hzU2 hiU2 hoU2 haU2 ?_; rw [hU2])
     clear k35 k36 k37 k38 k39 k40 k41 k42 k43 k44 k45 k46 k47 k48 k49 k50 k51 k52 k53 k54 k55 k56 k57 k58 hU2 hzU2 hiU2 hoU2 haU2
     have k59 := LO.cell 0 _ rfl
     have k60 := LO.cell 1 _ rfl
     have k61 := LO.cell 2 _ rfl
     have k62 := LO.cell 3 _ rfl
     have k63 := LN.cell 0 _ rfl
     have k64 := LN.cell 1 _ rfl
     have k65 := LN.cell 2 _ rfl
     have k66 := LN.cell 3 _ rfl
     have k67 := LV.cell 0 _ rfl
     have k68 := LV.cell 1 _ rfl
     have k69 := LV.cell 2 _ rfl
     have k70 := LV.cell 3 _ rfl
     go_wp2_with fail
     clear k59 k60 k61 k62 k63 k64 k65 k66 k67 k68 k69 k70
     refine (HST.out _).mono ?_
     rintro e v71 ⟨rfl, q⟩
     have LO := LO.later q
     have LN := LN.later q
     have LV := LV.later q
     have Q := Q.trans (q.mono Q.size)
     clear q
     have hlo := LO.lt
     have hln := LN.lt
     have k72 := LO.cell 0 _ rfl
     have k73 := LO.cell 1 _ rfl
     have k74 := LO.cell 2 _ rfl
     have k75 := LO.cell 3 _ rfl
     have k76 := LN.cell 0 _ rfl
     have k77 := LN.cell 1 _ rfl
     have k78 := LN.cell 2 _ rfl
     have k79 := LN.cell 3 _ rfl
     have k80 := LV.cell 0 _ rfl
     have k81 := LV.cell 1 _ rfl
     have k82 := LV.cell 2 _ rfl
     have k83 := LV.cell 3 _ rfl
     obtain ⟨U3, hU3⟩ : ∃ U3, v71.setRow BN #[.int .u64 (q : Int), .int .u64 0, .int .u64 0, .int .u64 0] = U3 := ⟨_, rfl⟩
     have hzU3 := LN
     have hiU3 : (Tryd.prog.info? 24).map (·.size) = some (#[.int .u64 (q : Int), .int .u64 0, .int .u64 0, .int .u64 0] : Array Value).size := by kernel_rfl
     have hoU3 : (#[.int .u64 (c : Int), .int .u64 0, .int .u64 0, .int .u64 0] : Array Value).size = (#[.int .u64 (q : Int), .int .u64 0, .int .u64 0, .int .u64 0] : Array Value).size := rfl
     have haU3 : (#[.int .u64 (q : Int), .int .u64 0, .int .u64 0, .int .u64 0] : Array Value).all (·.oneCell') = true := by simp [Value.oneCell']
     have LO := LO.rowOtherG (B := BN) (cs' := #[.int .u64 (q : Int), .int .u64 0, .int .u64 0, .int .u64 0]) (HNE.out)
     have LN := LN.rowG (cs' := #[.int .u64 (q : Int), .int .u64 0, .int .u64 0, .int .u64 0])
     have LV := LV.rowOtherG (B := BN) (cs' := #[.int .u64 (q : Int), .int .u64 0, .int .u64 0, .int .u64 0]) (by show b1 ≠ BN; omega)
     have Q := below_rowG Q (g := BN) (HLE.out.2) #[.int .u64 (q : Int), .int .u64 0, .int .u64 0, .int .u64 0]
     rw [hU3] at LO LN LV Q
     have k84 := LO.cell 0 _ rfl
     have k85 := LO.cell 1 _ rfl
     have k86 := LO.cell 2 _ rfl
     have k87 := LO.cell 3 _ rfl
     have k88 := LN.cell 0 _ rfl
     have k89 := LN.cell 1 _ rfl
     have k90 := LN.cell 2 _ rfl
     have k91 := LN.cell 3 _ rfl
     have k92 := LV.cell 0 _ rfl
     have k93 := LV.cell 1 _ rfl
     have k94 := LV.cell 2 _ rfl
     have k95 := LV.cell 3 _ rfl
     go_wp2_with (refine wpList_store_row rfl _ (.tmp 9) (.tmp 70) rfl _ _ rfl rfl _ _ hzU3 hiU3 hoU3 haU3 ?_; rw [hU3])
     clear k72 k73 k74 k75 k76 k77 k78 k79 k80 k81 k82 k83 k84 k85 k86 k87 k88 k89 k90 k91 k92 k93 k94 k95 hU3 hzU3 hiU3 hoU3 haU3
     go_roundw
     case rel => exact ⟨i + 1, q, _, _, rfl, rfl, by simp, by simp, by have := HIM.out; omega, LO, LN, Q, HQ4.out, by have h1 := HSTEP.out; have h2 := HE.out; push_cast; simp at h1 h2 ⊢; omega, HBZ.out, by have := HRR.out; have := HBB.out; push_cast; omega, fun hh => by have := HMID.out; omega⟩
     case measure => have := HIM.out; simp [intOf]; omega
   ·have hlast : ¬ (i : Int) < (zn : Int) ∨ ((i : Int) < (zn : Int) ∧ ¬ (i : Int) < 20) := by have := HM.out.1; omega
    rcases tbs with ⟨rfl, hI⟩ | ⟨rfl, hI⟩ | ⟨rfl, hI⟩
    ·skip
     have HSTEP0 := phi_step o c o true
     have hbz0 := bz_step o c o
     have hrr0 := refundedN_range o c o
     have hcr := writtenN_range o c o
     have HST := hid (store_retG o c o HO4.out hst.c4 HO4.out true)
     have hcc : 100 ≤ costN o c o true ∧ costN o c o true ≤ 22100 := by unfold costN; simp; omega
     obtain ⟨C, hC⟩ : ∃ C, costN o c o true = C := ⟨_, rfl⟩
     obtain ⟨R, hR⟩ : ∃ R, refundedN o c o = R := ⟨_, rfl⟩
     rw [hC] at HST hcc HSTEP0
     rw [hR] at HST hrr0 HSTEP0 hbz0
     have HRR := hid hrr0
     obtain ⟨C0, C1⟩ := hcc
     obtain ⟨R0, R1⟩ := hrr0
     have HSTEP := hid HSTEP0
     have HBZ := hid (show bzN o o ≤ bk + R by have := HBB.out.1; omega)
     have hbzv := bzN_range o o
     have hnb : ¬ bk + R < 0 := by have := HBZ.out; omega
     have hnb2 : 0 ≤ bk + R := by omega
     clear HSTEP0 hbz0 hcr hC hR hbzv
     rcases hlast with hl1 | ⟨hl1, hl2⟩
     all_goals
      have hne := HNE.out
      have hle := HLE.out
      have hbo : BO < wr.heap.size := hst.O.lt
      have hbn : BN < wr.heap.size := hst.N.lt
      have LO := hst.O
      have LN := hst.N
      have Q := hst.Q
      have k1 := LO.cell 0 _ rfl
      have k2 := LO.cell 1 _ rfl
      have k3 := LO.cell 2 _ rfl
      have k4 := LO.cell 3 _ rfl
      have k5 := LN.cell 0 _ rfl
      have k6 := LN.cell 1 _ rfl
      have k7 := LN.cell 2 _ rfl
      have k8 := LN.cell 3 _ rfl
      have LO := LO.alloc (.cells #[.int .u64 (o : Int), .int .u64 0, .int .u64 0, .int .u64 0] 24)
      have LN := LN.alloc (.cells #[.int .u64 (o : Int), .int .u64 0, .int .u64 0, .int .u64 0] 24)
      have LV := Has.new wr 24 #[.int .u64 (o : Int), .int .u64 0, .int .u64 0, .int .u64 0]
      have k9 := LO.cell 0 _ rfl
      have k10 := LO.cell 1 _ rfl
      have k11 := LO.cell 2 _ rfl
      have k12 := LO.cell 3 _ rfl
      have k13 := LN.cell 0 _ rfl
      have k14 := LN.cell 1 _ rfl
      have k15 := LN.cell 2 _ rfl
      have k16 := LN.cell 3 _ rfl
      have k17 := LV.cell 0 _ rfl
      have k18 := LV.cell 1 _ rfl
      have k19 := LV.cell 2 _ rfl
      have k20 := LV.cell 3 _ rfl
      have Q := Q.alloc Q.size (.cells #[.int .u64 (o : Int), .int .u64 0, .int .u64 0, .int .u64 0] 24)
      go_wp2_with fail
      clear k1 k2 k3 k4 k5 k6 k7 k8 k9 k10 k11 k12 k13 k14 k15 k16 k17 k18 k19 k20
      obtain ⟨W1, hW1⟩ : ∃ W1, (wr.alloc (.cells #[.int .u64 (o : Int), .int .u64 0, .int .u64 0, .int .u64 0] 24)) = W1 := ⟨_, rfl⟩
      rw [hW1] at LO LN LV Q ⊢
      clear hW1
      generalize wr.heap.size = b1 at *
      refine (HST.out _).mono ?_
      rintro e v21 ⟨rfl, q⟩
      have LO := LO.later q
      have LN := LN.later q
      have LV := LV.later q
      have Q := Q.trans (q.mono Q.size)
      clear q
      have hlo := LO.lt
      have hln := LN.lt
      have k22 := LO.cell 0 _ rfl
      have k23 := LO.cell 1 _ rfl
      have k24 := LO.cell 2 _ rfl
      have k25 := LO.cell 3 _ rfl
      have k26 := LN.cell 0 _ rfl
      have k27 := LN.cell 1 _ rfl
      have k28 := LN.cell 2 _ rfl
      have k29 := LN.cell 3 _ rfl
      have k30 := LV.cell 0 _ rfl
      have k31 := LV.cell 1 _ rfl
      have k32 := LV.cell 2 _ rfl
      have k33 := LV.cell 3 _ rfl
      obtain ⟨U2, hU2⟩ : ∃ U2, v21.setRow BN #[.int .u64 (o : Int), .int .u64 0, .int .u64 0, .int .u64 0] = U2 := ⟨_, rfl⟩
      have hzU2 := LN
      have hiU2 : (Tryd.prog.info? 24).map (·.size) = some (#[.int .u64 (o : Int), .int .u64 0, .int .u64 0, .int .u64 0] : Array Value).size := by kernel_rfl
      have hoU2 : (#[.int .u64 (c : Int), .int .u64 0, .int .u64 0, .int .u64 0] : Array Value).size = (#[.int .u64 (o : Int), .int .u64 0, .int .u64 0, .int .u64 0] : Array Value).size := rfl
      have haU2 : (#[.int .u64 (o : Int), .int .u64 0, .int .u64 0, .int .u64 0] : Array Value).all (·.oneCell') = true := by simp [Value.oneCell']
      have LO := LO.rowOtherG (B := BN) (cs' := #[.int .u64 (o : Int), .int .u64 0, .int .u64 0, .int .u64 0]) (HNE.out)
      have LN := LN.rowG (cs' := #[.int .u64 (o : Int), .int .u64 0, .int .u64 0, .int .u64 0])
      have LV := LV.rowOtherG (B := BN) (cs' := #[.int .u64 (o : Int), .int .u64 0, .int .u64 0, .int .u64 0]) (by show b1 ≠ BN; omega)
      have Q := below_rowG Q (g := BN) (HLE.out.2) #[.int .u64 (o : Int), .int .u64 0, .int .u64 0, .int .u64 0]
      rw [hU2] at LO LN LV Q
      have k34 := LO.cell 0 _ rfl
      have k35 := LO.cell 1 _ rfl
      have k36 := LO.cell 2 _ rfl
      have k37 := LO.cell 3 _ rfl
      have k38 := LN.cell 0 _ rfl
      have k39 := LN.cell 1 _ rfl
      have k40 := LN.cell 2 _ rfl
      have k41 := LN.cell 3 _ rfl
      have k42 := LV.cell 0 _ rfl
      have k43 := LV.cell 1 _ rfl
      have k44 := LV.cell 2 _ rfl
      have k45 := LV.cell 3 _ rfl
      go_wp2_with (refine wpList_store_row rfl _ (.tmp 9) (.tmp 70) rfl _ _ rfl rfl _ _ hzU2 hiU2 hoU2 haU2 ?_; rw [hU2])
      clear k22 k23 k24 k25 k26 k27 k28 k29 k30 k31 k32 k33 k34 k35 k36 k37 k38 k39 k40 k41 k42 k43 k44 k45 hU2 hzU2 hiU2 hoU2 haU2
      go_roundw
      case rel => exact ⟨i + 1, o, _, _, rfl, rfl, by simp, by simp, by have := HIM.out; omega, LO, LN, Q, HO4.out, by have h1 := HSTEP.out; have h2 := HE.out; push_cast; simp at h1 h2 ⊢; omega, HBZ.out, by have := HRR.out; have := HBB.out; push_cast; omega, fun hh => rfl⟩
      case measure => have := HIM.out; simp [intOf]; omega
    ·skip
     have hIn : ¬ 0 < i := by omega
     have HSTEP0 := phi_step o c o false
     have hbz0 := bz_step o c o
     have hrr0 := refundedN_range o c o
     have hcr := writtenN_range o c o
     have HST := hid (store_retG o c o HO4.out hst.c4 HO4.out false)
     have hcc : 100 ≤ costN o c o false ∧ costN o c o false ≤ 22100 := by unfold costN; simp; omega
     obtain ⟨C, hC⟩ : ∃ C, costN o c o false = C := ⟨_, rfl⟩
     obtain ⟨R, hR⟩ : ∃ R, refundedN o c o = R := ⟨_, rfl⟩
     rw [hC] at HST hcc HSTEP0
     rw [hR] at HST hrr0 HSTEP0 hbz0
     have HRR := hid hrr0
     obtain ⟨C0, C1⟩ := hcc
     obtain ⟨R0, R1⟩ := hrr0
     have HSTEP := hid HSTEP0
     have HBZ := hid (show bzN o o ≤ bk + R by have := HBB.out.1; omega)
     have hbzv := bzN_range o o
     have hnb : ¬ bk + R < 0 := by have := HBZ.out; omega
     have hnb2 : 0 ≤ bk + R := by omega
     clear HSTEP0 hbz0 hcr hC hR hbzv
     rcases hlast with hl1 | ⟨hl1, hl2⟩
     rotate_left
     ·exfalso; omega
     have hne := HNE.out
     have hle := HLE.out
     have hbo : BO < wr.heap.size := hst.O.lt
     have hbn : BN < wr.heap.size := hst.N.lt
     have LO := hst.O
     have LN := hst.N
     have Q := hst.Q
     have k1 := LO.cell 0 _ rfl
     have k2 := LO.cell 1 _ rfl
     have k3 := LO.cell 2 _ rfl
     have k4 := LO.cell 3 _ rfl
     have k5 := LN.cell 0 _ rfl
     have k6 := LN.cell 1 _ rfl
     have k7 := LN.cell 2 _ rfl
     have k8 := LN.cell 3 _ rfl
     have LO := LO.alloc (.cells #[.int .u64 (o : Int), .int .u64 0, .int .u64 0, .int .u64 0] 24)
     have LN := LN.alloc (.cells #[.int .u64 (o : Int), .int .u64 0, .int .u64 0, .int .u64 0] 24)
     have LV := Has.new wr 24 #[.int .u64 (o : Int), .int .u64 0, .int .u64 0, .int .u64 0]
     have k9 := LO.cell 0 _ rfl
     have k10 := LO.cell 1 _ rfl
     have k11 := LO.cell 2 _ rfl
     have k12 := LO.cell 3 _ rfl
     have k13 := LN.cell 0 _ rfl
     have k14 := LN.cell 1 _ rfl
     have k15 := LN.cell 2 _ rfl
     have k16 := LN.cell 3 _ rfl
     have k17 := LV.cell 0 _ rfl
     have k18 := LV.cell 1 _ rfl
     have k19 := LV.cell 2 _ rfl
     have k20 := LV.cell 3 _ rfl
     have Q := Q.alloc Q.size (.cells #[.int .u64 (o : Int), .int .u64 0, .int .u64 0, .int .u64 0] 24)
     go_wp2_with fail
     clear k1 k2 k3 k4 k5 k6 k7 k8 k9 k10 k11 k12 k13 k14 k15 k16 k17 k18 k19 k20
     obtain ⟨W1, hW1⟩ : ∃ W1, (wr.alloc (.cells #[.int .u64 (o : Int), .int .u64 0, .int .u64 0, .int .u64 0] 24)) = W1 := ⟨_, rfl⟩
     rw [hW1] at LO LN LV Q ⊢
     clear hW1
     generalize wr.heap.size = b1 at *
     refine (HST.out _).mono ?_
     rintro e v21 ⟨rfl, q⟩
     have LO := LO.later q
     have LN := LN.later q
     have LV := LV.later q
     have Q := Q.trans (q.mono Q.size)
     clear q
     have hlo := LO.lt
     have hln := LN.lt
     have k22 := LO.cell 0 _ rfl
     have k23 := LO.cell 1 _ rfl
     have k24 := LO.cell 2 _ rfl
     have k25 := LO.cell 3 _ rfl
     have k26 := LN.cell 0 _ rfl
     have k27 := LN.cell 1 _ rfl
     have k28 := LN.cell 2 _ rfl
     have k29 := LN.cell 3 _ rfl
     have k30 := LV.cell 0 _ rfl
     have k31 := LV.cell 1 _ rfl
     have k32 := LV.cell 2 _ rfl
     have k33 := LV.cell 3 _ rfl
     obtain ⟨U2, hU2⟩ : ∃ U2, v21.setRow BN #[.int .u64 (o : Int), .int .u64 0, .int .u64 0, .int .u64 0] = U2 := ⟨_, rfl⟩
     have hzU2 := LN
     have hiU2 : (Tryd.prog.info? 24).map (·.size) = some (#[.int .u64 (o : Int), .int .u64 0, .int .u64 0, .int .u64 0] : Array Value).size := by kernel_rfl
     have hoU2 : (#[.int .u64 (c : Int), .int .u64 0, .int .u64 0, .int .u64 0] : Array Value).size = (#[.int .u64 (o : Int), .int .u64 0, .int .u64 0, .int .u64 0] : Array Value).size := rfl
     have haU2 : (#[.int .u64 (o : Int), .int .u64 0, .int .u64 0, .int .u64 0] : Array Value).all (·.oneCell') = true := by simp [Value.oneCell']
     have LO := LO.rowOtherG (B := BN) (cs' := #[.int .u64 (o : Int), .int .u64 0, .int .u64 0, .int .u64 0]) (HNE.out)
     have LN := LN.rowG (cs' := #[.int .u64 (o : Int), .int .u64 0, .int .u64 0, .int .u64 0])
     have LV := LV.rowOtherG (B := BN) (cs' := #[.int .u64 (o : Int), .int .u64 0, .int .u64 0, .int .u64 0]) (by show b1 ≠ BN; omega)
     have Q := below_rowG Q (g := BN) (HLE.out.2) #[.int .u64 (o : Int), .int .u64 0, .int .u64 0, .int .u64 0]
     rw [hU2] at LO LN LV Q
     have k34 := LO.cell 0 _ rfl
     have k35 := LO.cell 1 _ rfl
     have k36 := LO.cell 2 _ rfl
     have k37 := LO.cell 3 _ rfl
     have k38 := LN.cell 0 _ rfl
     have k39 := LN.cell 1 _ rfl
     have k40 := LN.cell 2 _ rfl
     have k41 := LN.cell 3 _ rfl
     have k42 := LV.cell 0 _ rfl
     have k43 := LV.cell 1 _ rfl
     have k44 := LV.cell 2 _ rfl
     have k45 := LV.cell 3 _ rfl
     go_wp2_with (refine wpList_store_row rfl _ (.tmp 9) (.tmp 70) rfl _ _ rfl rfl _ _ hzU2 hiU2 hoU2 haU2 ?_; rw [hU2])
     clear k22 k23 k24 k25 k26 k27 k28 k29 k30 k31 k32 k33 k34 k35 k36 k37 k38 k39 k40 k41 k42 k43 k44 k45 hU2 hzU2 hiU2 hoU2 haU2
     go_roundw
     case rel => exact ⟨i + 1, o, _, _, rfl, rfl, by simp, by simp, by have := HIM.out; omega, LO, LN, Q, HO4.out, by have h1 := HSTEP.out; have h2 := HE.out; push_cast; simp at h1 h2 ⊢; omega, HBZ.out, by have := HRR.out; have := HBB.out; push_cast; omega, fun hh => rfl⟩
     case measure => have := HIM.out; simp [intOf]; omega
    ·skip
     have hIn : 0 < i := by omega
     have HSTEP0 := phi_step o c o true
     have hbz0 := bz_step o c o
     have hrr0 := refundedN_range o c o
     have hcr := writtenN_range o c o
     have HST := hid (store_retG o c o HO4.out hst.c4 HO4.out true)
     have hcc : 100 ≤ costN o c o true ∧ costN o c o true ≤ 22100 := by unfold costN; simp; omega
     obtain ⟨C, hC⟩ : ∃ C, costN o c o true = C := ⟨_, rfl⟩
     obtain ⟨R, hR⟩ : ∃ R, refundedN o c o = R := ⟨_, rfl⟩
     rw [hC] at HST hcc HSTEP0
     rw [hR] at HST hrr0 HSTEP0 hbz0
     have HRR := hid hrr0
     obtain ⟨C0, C1⟩ := hcc
     obtain ⟨R0, R1⟩ := hrr0
     have HSTEP := hid HSTEP0
     have HBZ := hid (show bzN o o ≤ bk + R by have := HBB.out.1; omega)
     have hbzv := bzN_range o o
     have hnb : ¬ bk + R < 0 := by have := HBZ.out; omega
     have hnb2 : 0 ≤ bk + R := by omega
     clear HSTEP0 hbz0 hcr hC hR hbzv
     rcases hlast with hl1 | ⟨hl1, hl2⟩
     all_goals
      have hne := HNE.out
      have hle := HLE.out
      have hbo : BO < wr.heap.size := hst.O.lt
      have hbn : BN < wr.heap.size := hst.N.lt
      have LO := hst.O
      have LN := hst.N
      have Q := hst.Q
      have k1 := LO.cell 0 _ rfl
      have k2 := LO.cell 1 _ rfl
      have k3 := LO.cell 2 _ rfl
      have k4 := LO.cell 3 _ rfl
      have k5 := LN.cell 0 _ rfl
      have k6 := LN.cell 1 _ rfl
      have k7 := LN.cell 2 _ rfl
      have k8 := LN.cell 3 _ rfl
      have LO := LO.alloc (.cells #[.int .u64 (o : Int), .int .u64 0, .int .u64 0, .int .u64 0] 24)
      have LN := LN.alloc (.cells #[.int .u64 (o : Int), .int .u64 0, .int .u64 0, .int .u64 0] 24)
      have LV := Has.new wr 24 #[.int .u64 (o : Int), .int .u64 0, .int .u64 0, .int .u64 0]
      have k9 := LO.cell 0 _ rfl
      have k10 := LO.cell 1 _ rfl
      have k11 := LO.cell 2 _ rfl
      have k12 := LO.cell 3 _ rfl
      have k13 := LN.cell 0 _ rfl
      have k14 := LN.cell 1 _ rfl
      have k15 := LN.cell 2 _ rfl
      have k16 := LN.cell 3 _ rfl
      have k17 := LV.cell 0 _ rfl
      have k18 := LV.cell 1 _ rfl
      have k19 := LV.cell 2 _ rfl
      have k20 := LV.cell 3 _ rfl
      have Q := Q.alloc Q.size (.cells #[.int .u64 (o : Int), .int .u64 0, .int .u64 0, .int .u64 0] 24)
      go_wp2_with fail
      clear k1 k2 k3 k4 k5 k6 k7 k8 k9 k10 k11 k12 k13 k14 k15 k16 k17 k18 k19 k20
      obtain ⟨W1, hW1⟩ : ∃ W1, (wr.alloc (.cells #[.int .u64 (o : Int), .int .u64 0, .int .u64 0, .int .u64 0] 24)) = W1 := ⟨_, rfl⟩
      rw [hW1] at LO LN LV Q ⊢
      clear hW1
      generalize wr.heap.size = b1 at *
      refine (HST.out _).mono ?_
      rintro e v21 ⟨rfl, q⟩
      have LO := LO.later q
      have LN := LN.later q
      have LV := LV.later q
      have Q := Q.trans (q.mono Q.size)
      clear q
      have hlo := LO.lt
      have hln := LN.lt
      have k22 := LO.cell 0 _ rfl
      have k23 := LO.cell 1 _ rfl
      have k24 := LO.cell 2 _ rfl
      have k25 := LO.cell 3 _ rfl
      have k26 := LN.cell 0 _ rfl
      have k27 := LN.cell 1 _ rfl
      have k28 := LN.cell 2 _ rfl
      have k29 := LN.cell 3 _ rfl
      have k30 := LV.cell 0 _ rfl
      have k31 := LV.cell 1 _ rfl
      have k32 := LV.cell 2 _ rfl
      have k33 := LV.cell 3 _ rfl
      obtain ⟨U2, hU2⟩ : ∃ U2, v21.setRow BN #[.int .u64 (o : Int), .int .u64 0, .int .u64 0, .int .u64 0] = U2 := ⟨_, rfl⟩
      have hzU2 := LN
      have hiU2 : (Tryd.prog.info? 24).map (·.size) = some (#[.int .u64 (o : Int), .int .u64 0, .int .u64 0, .int .u64 0] : Array Value).size := by kernel_rfl
      have hoU2 : (#[.int .u64 (c : Int), .int .u64 0, .int .u64 0, .int .u64 0] : Array Value).size = (#[.int .u64 (o : Int), .int .u64 0, .int .u64 0, .int .u64 0] : Array Value).size := rfl
      have haU2 : (#[.int .u64 (o : Int), .int .u64 0, .int .u64 0, .int .u64 0] : Array Value).all (·.oneCell') = true := by simp [Value.oneCell']
      have LO := LO.rowOtherG (B := BN) (cs' := #[.int .u64 (o : Int), .int .u64 0, .int .u64 0, .int .u64 0]) (HNE.out)
      have LN := LN.rowG (cs' := #[.int .u64 (o : Int), .int .u64 0, .int .u64 0, .int .u64 0])
      have LV := LV.rowOtherG (B := BN) (cs' := #[.int .u64 (o : Int), .int .u64 0, .int .u64 0, .int .u64 0]) (by show b1 ≠ BN; omega)
      have Q := below_rowG Q (g := BN) (HLE.out.2) #[.int .u64 (o : Int), .int .u64 0, .int .u64 0, .int .u64 0]
      rw [hU2] at LO LN LV Q
      have k34 := LO.cell 0 _ rfl
      have k35 := LO.cell 1 _ rfl
      have k36 := LO.cell 2 _ rfl
      have k37 := LO.cell 3 _ rfl
      have k38 := LN.cell 0 _ rfl
      have k39 := LN.cell 1 _ rfl
      have k40 := LN.cell 2 _ rfl
      have k41 := LN.cell 3 _ rfl
      have k42 := LV.cell 0 _ rfl
      have k43 := LV.cell 1 _ rfl
      have k44 := LV.cell 2 _ rfl
      have k45 := LV.cell 3 _ rfl
      go_wp2_with (refine wpList_store_row rfl _ (.tmp 9) (.tmp 70) rfl _ _ rfl rfl _ _ hzU2 hiU2 hoU2 haU2 ?_; rw [hU2])
      clear k22 k23 k24 k25 k26 k27 k28 k29 k30 k31 k32 k33 k34 k35 k36 k37 k38 k39 k40 k41 k42 k43 k44 k45 hU2 hzU2 hiU2 hoU2 haU2
      go_roundw
      case rel => exact ⟨i + 1, o, _, _, rfl, rfl, by simp, by simp, by have := HIM.out; omega, LO, LN, Q, HO4.out, by have h1 := HSTEP.out; have h2 := HE.out; push_cast; simp at h1 h2 ⊢; omega, HBZ.out, by have := HRR.out; have := HBB.out; push_cast; omega, fun hh => rfl⟩
      case measure => have := HIM.out; simp [intOf]; omega
  ·have hcO := hst.last (by have := hst.im; omega)
   have hend : ¬ (i : Int) ≤ (zn : Int) ∨ ((i : Int) ≤ (zn : Int) ∧ ¬ (i : Int) ≤ 20) := by have := HM.out.1; omega
   have hE := HE.out
   rw [hcO] at hE
   rw [show phiN o o = 0 by unfold phiN; simp, show (i == 0) = false by simp; omega] at hE
   have LN := hst.N
   have LO := hst.O
   have Q := hid hst.Q
   rw [hcO] at LN
   have k0 := LO.cell 0 _ rfl
   have k1 := LO.cell 1 _ rfl
   have k2 := LO.cell 2 _ rfl
   have k3 := LO.cell 3 _ rfl
   have j0 := LN.cell 0 _ rfl
   have j1 := LN.cell 1 _ rfl
   have j2 := LN.cell 2 _ rfl
   have j3 := LN.cell 3 _ rfl
   clear hst LN LO hcO hiM
   rcases hend with h1 | ⟨h1, h2⟩
   all_goals
    cases t
    all_goals
     simp at hE
     go_wp2
     go_ret
     refine ⟨?_, Q.out⟩
     first | rfl | (congr 2; simp; omega) | (simp; omega)
end
section
open Go Go.ChangeShapes Go.WideShapes Go.ChangeAt Go.RowKit
theorem cellsU64 : Tryd.prog.cellsOf 22 = 1 := by kernel_rfl
theorem cellsWord : Tryd.prog.cellsOf 24 = 4 := by kernel_rfl
theorem list4 {α : Type} (l : List α) (h : (⟨l⟩ : Array α).size = 4) : ∃ a b c d, l = [a, b, c, d] := by
 match l, h with
 | [a, b, c, d], _ => exact ⟨a, b, c, d, rfl⟩
theorem u64_of_wf {x : Int} (h : (Lit.int .u64 x).wf = true) : U64 x := by
 have := bounds_u64 h
 unfold U64; omega
theorem word_of (x0 x1 x2 x3 : Int) (h0 : U64 x0) (h1 : U64 x1) (h2 : U64 x2) (h3 : U64 x3) : ∃ n, W256 n ∧ wv n = .agg #[.int .u64 x0, .int .u64 x1, .int .u64 x2, .int .u64 x3] := by
 obtain ⟨z, z0, z1, z2, z3⟩ : ∃ z : Nat → Int, z 0 = x0 ∧ z 1 = x1 ∧ z 2 = x2 ∧ z 3 = x3 := ⟨fun k => if k = 0 then x0 else if k = 1 then x1 else if k = 2 then x2 else x3, rfl, rfl, rfl, rfl⟩
 subst z0 z1 z2 z3
 obtain ⟨g0, g1⟩ := num_lt z h0 h1 h2 h3
 have en : num z = ((num z).toNat : Int) := (Int.toNat_of_nonneg g0).symm
 have e := lim_num z (num z).toNat h0 h1 h2 h3 en
 refine ⟨_, ?_, wv_of e⟩
 unfold W256
 rw [en] at g1
 exact Int.ofNat_lt.1 g1
theorem open_word {H : Type} {enc : TypeId × Value → H} {W : World} {base b : Nat} {sp : Nat → Bool} {held : Bool} {v : Value} {d : DataW H} {ps : List MemPlace}
  (hval : Value.okWide Tryd.prog W .any base 24 v) (hd : DataW.Trod enc Tryd.prog W b sp held 24 v d ps) :
  ∃ n, W256 n ∧ v = wv n ∧ ps = [] ∧ ∀ (W' : World) (b' : Nat) (sp' : Nat → Bool) (held' : Bool), DataW.Trod enc Tryd.prog W' b' sp' held' 24 (wv n) d [] := by
 obtain ⟨cs, rfl, hsz, _⟩ : ∃ cs, v = .agg cs ∧ cs.size = Tryd.prog.cellsOf 24 ∧ Row.okWide Tryd.prog W .any base 24 cs := by
  simpa [Value.okWide, Tryd.underlying24] using hval
 rw [cellsWord] at hsz
 obtain ⟨l⟩ := cs
 obtain ⟨c0, c1, c2, c3, rfl⟩ := list4 l hsz
 obtain ⟨fuel, hf⟩ := hd
 obtain ⟨y0, y1, y2, y3, m, hx, hy0, hy1, hy2, hy3⟩ := trod_array4 Tryd.underlying24 cellsU64 hf
 obtain ⟨x0, e0, rfl, w0⟩ := DataW.trod_int Tryd.underlying22 hy0
 obtain ⟨x1, e1, rfl, w1⟩ := DataW.trod_int Tryd.underlying22 hy1
 obtain ⟨x2, e2, rfl, w2⟩ := DataW.trod_int Tryd.underlying22 hy2
 obtain ⟨x3, e3, rfl, w3⟩ := DataW.trod_int Tryd.underlying22 hy3
 simp at e0 e1 e2 e3
 subst e0 e1 e2 e3
 simp only [Prod.mk.injEq] at hx
 obtain ⟨rfl, rfl⟩ := hx
 obtain ⟨n, hn, hv⟩ := word_of x0 x1 x2 x3 (u64_of_wf w0) (u64_of_wf w1) (u64_of_wf w2) (u64_of_wf w3)
 refine ⟨n, hn, hv.symm, rfl, fun W' b' sp' held' => ?_⟩
 rw [hv]
 exact ⟨2, by simp [DataW.trod, Value.cells, Tryd.underlying24, Tryd.underlying22, cellsWord, cellsU64, w0, w1, w2, w3, show List.range 4 = [0, 1, 2, 3] from rfl]⟩
theorem i64_of_wf {x : Int} (h : (Lit.int .i64 x).wf = true) : I64 x := by
 have := bounds_i64 h
 unfold I64; omega
end
end Go.Proofs.YtlihnlkcgiopoaaDoor
