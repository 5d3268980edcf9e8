/- Part. -/
import Derived.Test.YtpolmfmlklmmcaaG07
set_option maxRecDepth 100000
set_option maxHeartbeats 16000000
namespace Go.Proofs.Ytpolmfmlklmmcaa
section
open Go Go.RowKit Go.Shelf
attribute [local go_sem] Oper.semAt_some Grows wide_fn
def bytV (a n : Nat) : List Value := (List.range n).map fun j => Value.int .u8 (dg a (31 - j) : Int)
theorem bytV_succ (a n : Nat) : bytV a (n + 1) = bytV a n ++ [.int .u8 (dg a (31 - n) : Int)] := by simp [bytV, List.range_succ]
theorem bytes_back (a : Nat) : (⟨((byteL a).map UInt8.ofNat).toArray⟩ : ByteArray) = bytesOf a := by
 have h := bytesOf_list a
 cases hb : bytesOf a with
 | mk data =>
  rw [hb] at h
  simp only [] at h
  rw [← h]
theorem refBytes_ret (a : Nat) : Ret Try.prog 30 #[wv a] (.string (bytesOf a)) := by
 intro w
 have B0 := (Below.refl _ w).alloc (Nat.le_refl _) (.cells #[.int .u64 (lim a 0), .int .u64 (lim a 1), .int .u64 (lim a 2), .int .u64 (lim a 3)] 24)
 have s0 : w.heap.size + 1 ≤ (w.alloc (.cells #[.int .u64 (lim a 0), .int .u64 (lim a 1), .int .u64 (lim a 2), .int .u64 (lim a 3)] 24)).heap.size := by simp
 have DA := digits_any a
 unfold wv at DA ⊢
 go_enter Try.func30, Try.ntmps30
 go_wp2_with fail
 obtain ⟨W0, hW0⟩ : ∃ W0, w.alloc (.cells #[.int .u64 (lim a 0), .int .u64 (lim a 1), .int .u64 (lim a 2), .int .u64 (lim a 3)] 24) = W0 := ⟨_, rfl⟩
 rw [hW0] at B0 s0 ⊢
 clear hW0
 refine (DA _).mono ?_
 rintro e w1 ⟨g, cap, rfl, hg, X1, q⟩
 have B1 := B0.trans (q.mono B0.size)
 have hgl := X1.lt
 have R0 := World.ownsRow_nil w1 w1.heap.size 5 1
 have hs1 : w.heap.size ≤ w1.heap.size := B1.size
 clear q B0 DA s0 hg
 go_wp2
 go_loopw [4, 5] (fun t i wr => ∃ (z : Int) (k : Nat), i = .int .i64 z ∧ k ≤ 32 ∧ z = 31 - (k : Int) ∧ wr.ownsRow w1.heap.size 5 1 t k (bytV a k) ∧ IntsAt wr g 32 (fun j => (dg a j : Int)) ∧ Below w.heap.size w wr ∧ w1.heap.size ≤ wr.heap.size) (fun _ i _ => (intOf i + 1).toNat)
 case atStart => exact ⟨31, 0, rfl, by omega, by omega, R0, X1, B1, Nat.le_refl _⟩
 case round =>
  obtain ⟨z, k, rfl, hk, hz, hown, xx, hB, hsz⟩ := hrel
  clear R0 X1 B1
  by_cases hlt : k < 32
  ·obtain ⟨i, hi⟩ : ∃ i : Nat, z = i := ⟨31 - k, by omega⟩
   subst hi
   have hik : i = 31 - k := by omega
   have hi0 : (0 : Int) ≤ (i : Int) := by omega
   have hi9 : (i : Int) < 32 := by omega
   have cd := xx.cell (j := i) (by omega)
   have db := dg_lt a i
   have HV := Lib.hid (bytV_succ a k)
   rw [← hik] at HV
   have HK := Lib.hid hlt
   have HIK := Lib.hid hik
   have HX := Lib.hid xx
   have HO := Lib.hid hown
   have HB := Lib.hid hB
   have HZ := Lib.hid hsz
   have b0 : (0 : Int) ≤ (dg a i : Int) := by omega
   have b1 : (dg a i : Int) < 256 := by omega
   obtain ⟨i0, hi, hz0, hz1, hz2⟩ := info_parts infoB
   clear hk hz hlt hik hown xx hB hsz db
   generalize (dg a i : Int) = b at *
   go_wp2_with (at_builtin; refine wpList_append_own _ rfl _ _ 58 rfl w1.heap.size 5 i0 (.int .u8 0) 1 1 Try.underlying58 hi hz0 hz1 hz2 rfl (by decide) _ _ _ rfl (HO.out.alloc _) ⟨wr.heap.size, 0, none⟩ 1 1 [.int .u8 b] rfl rfl (cell_one _ _ _) (by simp [Value.oneCell']) (by unfold maxLen; have := HK.out; omega) (by have := HK.out; omega) (by have := HZ.out; simp; omega) ?_; intro v' w3 hown' hgrow hnil)
   clear hi hz0 hz1 hz2
   go_wp2
   go_roundw
   case rel =>
    have hxs3 := hgrow.size
    have hzz := HZ.out
    refine ⟨(i : Int) - 1, k + 1, by simp, HK.out, by have := HIK.out; have := HK.out; omega, ?_, ?_, ?_, by simp at hxs3; omega⟩
    ·rw [HV.out]; exact hown'
    ·exact (HX.out.alloc _).kept hgrow (fun e => by have := (HO.out.alloc (.cells #[.int .u8 b] 5)).lt _ e.symm; omega)
    ·exact (HB.out.alloc (by omega) _).grown hgrow (by simp; omega) (fun j e => by have := (HO.out.alloc (.cells #[.int .u8 b] 5)).lt j e; omega)
   case measure => first | (simp [intOf]; done) | (simp [intOf]; omega)
  ·obtain rfl : k = 32 := by omega
   obtain rfl : z = -1 := by omega
   obtain ⟨g', cap', rfl⟩ := ownsRow_succ (k := 31) hown
   have hback : (convert 58 9 (.slice (some ⟨g', 0, none⟩) 32 cap')).run Try.prog wr = .ok (.string (bytesOf a)) wr := by
    have hl : ((byteL a).map UInt8.ofNat).length = 32 := by simp [byteL]
    have h := run_convert_bytes_back (P := Try.prog) wr 58 9 5 ⟨g', 0, none⟩ cap' ((byteL a).map UInt8.ofNat) Try.underlying58 Try.underlying5 Try.underlying9 (fun j hj => by
     have hj2 : j < 32 := by omega
     have hcell := hown.cells (g := g') rfl j (.int .u8 (dg a (31 - j) : Int)) (by simp [bytV, hj2])
     rw [hcell]
     congr 2
     have hgt : ((byteL a).map UInt8.ofNat)[j] = UInt8.ofNat (byteN a (31 - j)) := by simp [byteL]
     refine Eq.trans ?_ (congrArg (fun c : UInt8 => (c.toNat : Int)) hgt).symm
     show (dg a (31 - j) : Int) = ((UInt8.ofNat (byteN a (31 - j))).toNat : Int)
     rw [UInt8.toNat_ofNat', Nat.mod_eq_of_lt (show byteN a (31 - j) < 2 ^ 8 from byteN_lt a _)]
     rfl)
    rw [hl, bytes_back] at h
    exact h
   have HB := Lib.hid hB
   clear hk hz hlt hown xx hB hsz
   go_wp2
   go_ret
   exact ⟨rfl, HB.out⟩
def bd (l : List UInt8) (j : Nat) : Int := if j < l.length then ((l.reverse.getD j 0).toNat : Int) else 0
end
section
open Go Go.RowKit
attribute [local go_sem] Oper.semAt_some Grows wide_fn eq4
theorem back_walk12 (s t put p m a b c z : ByteArray) (words ap i : Int) (zw : Nat → Int) (mm nn k M : Nat) (k0 : Ret Try.prog 8 #[] (.bool true)) (hmin : min (s.size : Int) 40 = (mm : Int)) (hmm : (mm : Int) ≤ (s.size : Int)) (ht : s.extract 0 mm = t) (hmin2 : min (put.size : Int) 30 = (nn : Int)) (hnn : (nn : Int) ≤ (put.size : Int)) (ht2 : put.extract 0 nn = p) (hi : 0 ≤ i ∧ i ≤ 15) (hmS : (m.size : Int) = (M : Int)) (haS : (a.size : Int) = (M : Int)) (hbS : (b.size : Int) = (M : Int)) (hcS : (c.size : Int) = (M : Int)) (hzS : (z.size : Int) = 32) (hM : M ≤ 512) (hk : (k : Int) + 32 ≤ (M : Int)) (hps : p.size ≤ 30) (ea1 : a.extract 0 k = m.extract 0 k) (ea2 : a.extract (k + 32) a.size = m.extract (k + 32) m.size) (eb1 : b.extract 0 k = m.extract 0 k) (eb2 : b.extract (k + p.size) b.size = m.extract (k + p.size) m.size) (ec1 : c.extract 0 k = m.extract 0 k) (ec2 : c.extract (k + 1) c.size = m.extract (k + 1) m.size) (hkc : k < c.size) (h31 : 31 < z.size) (ecz : ((c[k]'hkc).toNat : Int) = ((z[31]'h31).toNat : Int)) (pi : Ret Try.prog 11 #[.int .i64 words, .int .i64 16] (.int .i64 i)) (pm : Ret Try.prog 15 #[.string t, .int .i64 (1 + i)] (.string m)) (pk : Ret Try.prog 11 #[.int .i64 ap, .int .i64 ((M : Int) - 31)] (.int .i64 (k : Int))) (st : Ret Try.prog 20 #[.string m, .int .i64 (k : Int), .agg #[.int .u64 (zw 0), .int .u64 (zw 1), .int .u64 (zw 2), .int .u64 (zw 3)]] (.tuple #[.string a, .int .i64 0])) (ld : Ret Try.prog 18 #[.string a, .int .i64 (k : Int)] (.tuple #[.agg #[.int .u64 (zw 0), .int .u64 (zw 1), .int .u64 (zw 2), .int .u64 (zw 3)], .int .i64 0])) (cp : Ret Try.prog 24 #[.string m, .int .i64 (k : Int), .string p] (.tuple #[.string b, .int .i64 0])) (s1 : Ret Try.prog 26 #[.string b, .int .i64 (k : Int), .int .i64 (p.size : Int)] (.tuple #[.string p, .int .i64 0])) (bz : Ret Try.prog 22 #[.string m, .int .i64 (k : Int), .agg #[.int .u64 (zw 0), .int .u64 (zw 1), .int .u64 (zw 2), .int .u64 (zw 3)]] (.tuple #[.string c, .int .i64 0])) (s2 : Ret Try.prog 26 #[.string a, .int .i64 (k : Int), .int .i64 32] (.tuple #[.string z, .int .i64 0])) (rb : Ret Try.prog 30 #[.agg #[.int .u64 (zw 0), .int .u64 (zw 1), .int .u64 (zw 2), .int .u64 (zw 3)]] (.string z)) :
  Ret Try.prog 4 #[.string s, .int .i64 words, .int .i64 ap, .agg #[.int .u64 (zw 0), .int .u64 (zw 1), .int .u64 (zw 2), .int .u64 (zw 3)], .string put] (.bool true) := by
 intro w
 obtain ⟨i0, i1⟩ := hi
 have HZ := hid ecz
 clear ecz
 have Hk0 := hid k0
 have Hpi := hid pi
 have Hpm := hid pm
 have Hpk := hid pk
 have Hst := hid st
 have Hld := hid ld
 have Hcp := hid cp
 have Hs1 := hid s1
 have Hbz := hid bz
 have Hs2 := hid s2
 have Hrb := hid rb
 clear k0 pi pm pk st ld cp s1 bz s2 rb
 go_enter Try.func4, Try.ntmps4
 have LA := Has.new w 24 #[.int .u64 (zw 0), .int .u64 (zw 1), .int .u64 (zw 2), .int .u64 (zw 3)]
 have k1 := LA.cell 0 _ rfl
 have k2 := LA.cell 1 _ rfl
 have k3 := LA.cell 2 _ rfl
 have k4 := LA.cell 3 _ rfl
 have Q := (Below.refl w.heap.size w)
 have Q := Q.alloc Q.size (.cells #[.int .u64 (zw 0), .int .u64 (zw 1), .int .u64 (zw 2), .int .u64 (zw 3)] 24)
 go_wp2_with fail
 clear k1 k2 k3 k4
 obtain ⟨W1, hW1⟩ : ∃ W1, (w.alloc (.cells #[.int .u64 (zw 0), .int .u64 (zw 1), .int .u64 (zw 2), .int .u64 (zw 3)] 24)) = W1 := ⟨_, rfl⟩
 rw [hW1] at LA Q ⊢
 clear hW1
 refine (Hk0.out _).mono ?_
 rintro e v5 ⟨rfl, q⟩
 have LA := LA.later q
 have Q := Q.trans (q.mono Q.size)
 clear q
 go_wp2_with fail
 refine wp_region_quick (C := Grows v5) (by kernel_rfl) (by kernel_rfl) (by kernel_rfl) (grows_refl v5) ?_
 repeat (go_big_quiet_step (first | (with_reducible exact Ret.at Hpi.out _) | (with_reducible exact Ret.at Hpm.out _)))
 refine wpQuiet_nil ?_
 rintro _ ⟨x, rfl⟩
 have LA := LA.later x.below
 have Q := Q.trans (x.below.mono Q.size)
 generalize x.w = w2 at *
 clear hmin hmm ht i0 i1
 have k6 := LA.cell 0 _ rfl
 have k7 := LA.cell 1 _ rfl
 have k8 := LA.cell 2 _ rfl
 have k9 := LA.cell 3 _ rfl
 go_wp2_with fail
 clear k6 k7 k8 k9
 refine (Hpk.out _).mono ?_
 rintro e v10 ⟨rfl, q⟩
 have LA := LA.later q
 have Q := Q.trans (q.mono Q.size)
 clear q
 have k0I : (0 : Int) ≤ (k : Int) := by omega
 have k1I : (k : Int) ≤ (M : Int) := by omega
 have k2I : (0 : Int) ≤ (k : Int) + 32 := by omega
 have k3I : (k : Int) + (p.size : Int) ≤ (M : Int) := by omega
 have k4I : (0 : Int) ≤ (k : Int) + (p.size : Int) := by omega
 have k5I : (k : Int) + 1 ≤ (M : Int) := by omega
 have k6I : (0 : Int) ≤ (k : Int) + 1 := by omega
 have k7I : (k : Int) < (M : Int) := by omega
 have k11 := LA.cell 0 _ rfl
 have k12 := LA.cell 1 _ rfl
 have k13 := LA.cell 2 _ rfl
 have k14 := LA.cell 3 _ rfl
 go_wp2_with fail
 clear k11 k12 k13 k14
 refine (Hst.out _).mono ?_
 rintro e v15 ⟨rfl, q⟩
 have LA := LA.later q
 have Q := Q.trans (q.mono Q.size)
 clear q
 have k16 := LA.cell 0 _ rfl
 have k17 := LA.cell 1 _ rfl
 have k18 := LA.cell 2 _ rfl
 have k19 := LA.cell 3 _ rfl
 go_wp2_with fail
 clear k16 k17 k18 k19
 refine (Hld.out _).mono ?_
 rintro e v20 ⟨rfl, q⟩
 have LA := LA.later q
 have Q := Q.trans (q.mono Q.size)
 clear q
 have k21 := LA.cell 0 _ rfl
 have k22 := LA.cell 1 _ rfl
 have k23 := LA.cell 2 _ rfl
 have k24 := LA.cell 3 _ rfl
 have LA := LA.alloc (.cells #[.int .u64 (zw 0), .int .u64 (zw 1), .int .u64 (zw 2), .int .u64 (zw 3)] 24)
 have LX := Has.new v20 24 #[.int .u64 (zw 0), .int .u64 (zw 1), .int .u64 (zw 2), .int .u64 (zw 3)]
 have k25 := LA.cell 0 _ rfl
 have k26 := LA.cell 1 _ rfl
 have k27 := LA.cell 2 _ rfl
 have k28 := LA.cell 3 _ rfl
 have k29 := LX.cell 0 _ rfl
 have k30 := LX.cell 1 _ rfl
 have k31 := LX.cell 2 _ rfl
 have k32 := LX.cell 3 _ rfl
 have Q := Q.alloc Q.size (.cells #[.int .u64 (zw 0), .int .u64 (zw 1), .int .u64 (zw 2), .int .u64 (zw 3)] 24)
 go_wp2_with fail
 clear k21 k22 k23 k24 k25 k26 k27 k28 k29 k30 k31 k32
 obtain ⟨W2, hW2⟩ : ∃ W2, (v20.alloc (.cells #[.int .u64 (zw 0), .int .u64 (zw 1), .int .u64 (zw 2), .int .u64 (zw 3)] 24)) = W2 := ⟨_, rfl⟩
 rw [hW2] at LA LX Q ⊢
 clear hW2
 generalize v20.heap.size = b2 at *
 refine (Hcp.out _).mono ?_
 rintro e v33 ⟨rfl, q⟩
 have LA := LA.later q
 have LX := LX.later q
 have Q := Q.trans (q.mono Q.size)
 clear q
 have k34 := LA.cell 0 _ rfl
 have k35 := LA.cell 1 _ rfl
 have k36 := LA.cell 2 _ rfl
 have k37 := LA.cell 3 _ rfl
 have k38 := LX.cell 0 _ rfl
 have k39 := LX.cell 1 _ rfl
 have k40 := LX.cell 2 _ rfl
 have k41 := LX.cell 3 _ rfl
 go_wp2_with fail
 clear k34 k35 k36 k37 k38 k39 k40 k41
 refine (Hs1.out _).mono ?_
 rintro e v42 ⟨rfl, q⟩
 have LA := LA.later q
 have LX := LX.later q
 have Q := Q.trans (q.mono Q.size)
 clear q
 have k43 := LA.cell 0 _ rfl
 have k44 := LA.cell 1 _ rfl
 have k45 := LA.cell 2 _ rfl
 have k46 := LA.cell 3 _ rfl
 have k47 := LX.cell 0 _ rfl
 have k48 := LX.cell 1 _ rfl
 have k49 := LX.cell 2 _ rfl
 have k50 := LX.cell 3 _ rfl
 go_wp2_with fail
 clear k43 k44 k45 k46 k47 k48 k49 k50
 refine (Hbz.out _).mono ?_
 rintro e v51 ⟨rfl, q⟩
 have LA := LA.later q
 have LX := LX.later q
 have Q := Q.trans (q.mono Q.size)
 clear q
 have k52 := LA.cell 0 _ rfl
 have k53 := LA.cell 1 _ rfl
 have k54 := LA.cell 2 _ rfl
 have k55 := LA.cell 3 _ rfl
 have k56 := LX.cell 0 _ rfl
 have k57 := LX.cell 1 _ rfl
 have k58 := LX.cell 2 _ rfl
 have k59 := LX.cell 3 _ rfl
 go_wp2_with fail
 clear k52 k53 k54 k55 k56 k57 k58 k59
 refine (Hs2.out _).mono ?_
 rintro e v60 ⟨rfl, q⟩
 have LA := LA.later q
 have LX := LX.later q
 have Q := Q.trans (q.mono Q.size)
 clear q
 have k61 := LA.cell 0 _ rfl
 have k62 := LA.cell 1 _ rfl
 have k63 := LA.cell 2 _ rfl
 have k64 := LA.cell 3 _ rfl
 have k65 := LX.cell 0 _ rfl
 have k66 := LX.cell 1 _ rfl
 have k67 := LX.cell 2 _ rfl
 have k68 := LX.cell 3 _ rfl
 go_wp2_with fail
 clear k61 k62 k63 k64 k65 k66 k67 k68
 have k69 : ∀ x : Ext v60, x.w.cell? ⟨w.heap.size, 0, none⟩ = some (.int .u64 (zw 0)) := fun x => (LA.later x.below).cell 0 _ rfl
 have k70 : ∀ x : Ext v60, x.w.cell? ⟨w.heap.size, 1, none⟩ = some (.int .u64 (zw 1)) := fun x => (LA.later x.below).cell 1 _ rfl
 have k71 : ∀ x : Ext v60, x.w.cell? ⟨w.heap.size, 2, none⟩ = some (.int .u64 (zw 2)) := fun x => (LA.later x.below).cell 2 _ rfl
 have k72 : ∀ x : Ext v60, x.w.cell? ⟨w.heap.size, 3, none⟩ = some (.int .u64 (zw 3)) := fun x => (LA.later x.below).cell 3 _ rfl
 have k73 : ∀ x : Ext v60, x.w.cell? ⟨b2, 0, none⟩ = some (.int .u64 (zw 0)) := fun x => (LX.later x.below).cell 0 _ rfl
 have k74 : ∀ x : Ext v60, x.w.cell? ⟨b2, 1, none⟩ = some (.int .u64 (zw 1)) := fun x => (LX.later x.below).cell 1 _ rfl
 have k75 : ∀ x : Ext v60, x.w.cell? ⟨b2, 2, none⟩ = some (.int .u64 (zw 2)) := fun x => (LX.later x.below).cell 2 _ rfl
 have k76 : ∀ x : Ext v60, x.w.cell? ⟨b2, 3, none⟩ = some (.int .u64 (zw 3)) := fun x => (LX.later x.below).cell 3 _ rfl
 clear LA LX
 have HQ := hid Q
 clear Q
 have ecz := HZ.out
 try simp only [List.append]
 refine wp_region_quick (C := Grows v60) (by kernel_rfl) (by kernel_rfl) (by kernel_rfl) (grows_refl v60) ?_
 repeat (go_big_quiet_step (first | (with_reducible exact Ret.at Hrb.out _)))
 refine wpQuiet_nil ?_
 rintro _ ⟨x, rfl⟩
 go_wp2
 go_ret
 exact ⟨rfl, HQ.out.trans (x.below.mono HQ.out.size)⟩
theorem overS_head (m s : ByteArray) (k : Nat) (h : k ≤ m.size) : (overS m k s).extract 0 k = m.extract 0 k := by
 refine ba_ext ?_
 rw [extract_list, extract_list]
 show ((m.data.toList.take k ++ (s.data.toList ++ m.data.toList.drop (k + s.size))).drop 0).take _ = _
 rw [List.drop_zero, List.drop_zero, Nat.sub_zero, List.take_left' (by rw [List.length_take, ba_len]; omega)]
theorem overS_tail (m s : ByteArray) (k : Nat) (h : k + s.size ≤ m.size) : (overS m k s).extract (k + s.size) (overS m k s).size = m.extract (k + s.size) m.size := by
 refine ba_ext ?_
 rw [overS_size m s k h, extract_list, extract_list]
 congr 1
 show (m.data.toList.take k ++ (s.data.toList ++ m.data.toList.drop (k + s.size))).drop _ = _
 rw [← List.append_assoc, List.drop_left' (by rw [List.length_append, List.length_take, ba_len, ba_len]; omega)]
theorem pickN_small (n m : Int) (h0 : 0 ≤ n) (h1 : n < m) : pickN n m = n := by
 unfold pickN
 rw [if_neg (by omega)]
 exact Int.emod_eq_of_lt h0 h1
theorem back_any12 (s : ByteArray) (words ap : Int) (n : Nat) (put : ByteArray) (hw : I64 words) (hp : I64 ap) (hn : W256 n) : Ret Try.prog 4 #[.string s, .int .i64 words, .int .i64 ap, wv n, .string put] (.bool true) := by
 obtain ⟨mm, e1, e2, e3⟩ := cut40 s 40
 obtain ⟨nn, f1, f2, f3⟩ := cut40 put 30
 obtain ⟨i0, i1⟩ := pickN_range words 16 (by decide)
 have pi := pick_ret words hw 16 (by decide) (by decide)
 obtain ⟨i, hi⟩ : ∃ k : Nat, pickN words 16 = (k : Int) := ⟨(pickN words 16).toNat, by omega⟩
 rw [hi] at pi i0 i1
 have pm := mem_ret (s.extract 0 mm) (by omega) (1 + (i : Int)) (by unfold I64; omega)
 have hms := memS_size (s.extract 0 mm) (1 + (i : Int))
 rw [pickN_small _ 17 (by omega) (by omega), show (1 + (i : Int)).toNat = 1 + i by omega] at hms
 generalize memS (s.extract 0 mm) (1 + (i : Int)) = m at *
 obtain ⟨p, hpp⟩ : ∃ p, put.extract 0 nn = p := ⟨_, rfl⟩
 rw [hpp] at f3
 obtain ⟨k0, k1⟩ := pickN_range ap ((m.size : Int) - 31) (by omega)
 have pk := pick_ret ap hp ((m.size : Int) - 31) (by omega) (by omega)
 obtain ⟨k, hk⟩ : ∃ k : Nat, pickN ap ((m.size : Int) - 31) = (k : Int) := ⟨(pickN ap ((m.size : Int) - 31)).toNat, by omega⟩
 rw [hk] at pk k0 k1
 have hb := bytesOf_len n
 have hl : (lastOf n).size = 1 := by unfold lastOf; rw [ByteArray.size_extract, hb]; rfl
 have hk2 : k + 32 ≤ m.size := by omega
 have st := Ret.of_eq (store_ret m (by omega) (k : Int) n hn) rfl (if_pos (by rw [hb]; exact there_yes m (by omega) (by omega) k 32 hk2))
 rw [Int.toNat_natCast] at st
 have sa := overS_size m (bytesOf n) k (by omega)
 have ca := overS_cut m (bytesOf n) k (by omega)
 rw [hb] at ca
 have ld := Ret.of_eq (load_ret (overS m k (bytesOf n)) (by omega) (k : Int)) rfl (if_pos (there_yes _ (by omega) (by omega) k 32 (by omega)))
 rw [Int.toNat_natCast, show wordAt (overS m k (bytesOf n)) k = n by unfold wordAt; rw [ca]; exact fromB_bytes n hn] at ld
 have cp := copy_any m p (by omega) (by omega) k (by omega)
 have sb := overS_size m p k (by omega)
 have s1 := slice_any (overS m k p) (by omega) (by omega) k p.size (by omega)
 rw [overS_cut m p k (by omega)] at s1
 have by' := Ret.of_eq (byte_ret m (by omega) (k : Int) n hn) rfl (if_pos (by rw [hl]; exact there_yes m (by omega) (by omega) k 1 (by omega)))
 rw [Int.toNat_natCast] at by'
 have sc := overS_size m (lastOf n) k (by omega)
 have s2 := slice_any (overS m k (bytesOf n)) (by omega) (by omega) k 32 (by omega)
 rw [ca] at s2
 have ta := overS_tail m (bytesOf n) k (by omega)
 rw [hb] at ta
 have tc := overS_tail m (lastOf n) k (by omega)
 rw [hl] at tc
 have hkc : k < (overS m k (lastOf n)).size := by omega
 have h31 : 31 < (bytesOf n).size := by omega
 refine back_walk12 s _ put p m (overS m k (bytesOf n)) (overS m k p) (overS m k (lastOf n)) (bytesOf n) words ap i (lim n) mm nn k m.size awake_ret e1 e2 rfl f1 f2 hpp ⟨by omega, by omega⟩ rfl (by omega) (by omega) (by omega) (by omega) (by omega) (by omega) f3
  (overS_head m _ k (by omega)) ta (overS_head m _ k (by omega)) (overS_tail m p k (by omega)) (overS_head m _ k (by omega)) tc hkc h31 ?_ pi pm pk st ld cp s1 by' s2 (refBytes_ret n)
 have e : (overS m k (lastOf n))[k]'hkc = (bytesOf n)[31]'h31 := by
  have a1 := ba_at _ k hkc
  have a2 : (overS m k (lastOf n)).data.toList[k]? = (lastOf n).data.toList[0]? := by
   show (m.data.toList.take k ++ ((lastOf n).data.toList ++ m.data.toList.drop (k + (lastOf n).size)))[k]? = _
   rw [List.getElem?_append_right (by rw [List.length_take]; omega), List.length_take, ba_len, show k - min k m.size = 0 by omega, List.getElem?_append_left (by rw [ba_len]; omega)]
  have a3 : (lastOf n).data.toList[0]? = (bytesOf n).data.toList[31]? := by
   unfold lastOf
   rw [extract_list, List.getElem?_take, if_pos (by rw [hb]; decide), List.getElem?_drop]
  rw [a2, a3, ba_at _ 31 h31] at a1
  exact (Option.some.inj a1).symm
 rw [e]
end
end Go.Proofs.Ytpolmfmlklmmcaa
