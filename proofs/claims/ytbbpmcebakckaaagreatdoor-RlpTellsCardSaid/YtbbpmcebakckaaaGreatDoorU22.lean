import Derived.Test.YtbbpmcebakckaaaGreatDoorU09
import Derived.Test.YtbbpmcebakckaaaGreatDoorU20
import Derived.Test.YtbbpmcebakckaaaGreatDoorU04
import Derived.Test.YtbbpmcebakckaaaGreatDoorU11
import Derived.Test.YtbbpmcebakckaaaGreatDoorU18
import Derived.Test.YtbbpmcebakckaaaGreatDoorU21
import Derived.Test.YtbbpmcebakckaaaGreatDoorU13
/- The reference's Number. Conditions: none. -/
namespace Go.Proofs.YtbbpmcebakckaaaGreatDoor
open Go Go.RowKit
attribute [local go_sem] Oper.semAt_some Grows wide_fn

set_option maxRecDepth 100000 in
set_option maxHeartbeats 2000000 in
theorem refNum_ret (a : Nat) (ha : W256 a) : Ret Tryz.prog 18 #[wv a] (txtV (digs a)) := by
  intro w
  have hmx : Tryz.prog.follows .mixedOrders = true := by kernel_rfl
  have HB := Lib.hid (refBytes_ret a)
  have hD := Lib.hid (digs_bytes a ha)
  unfold wv at HB ⊢
  generalize lim a 0 = l0 at *
  generalize lim a 1 = l1 at *
  generalize lim a 2 = l2 at *
  generalize lim a 3 = l3 at *
  generalize bytesOf a = bs at *
  generalize digs a = ds at *
  have LX := (Has.new w 25 #[.int .u64 l0, .int .u64 l1, .int .u64 l2, .int .u64 l3]).alloc (.cells #[.bool false, .string ⟨#[]⟩, .slice none 0 0] 29)
  have NX := Has.new (w.alloc (.cells #[.int .u64 l0, .int .u64 l1, .int .u64 l2, .int .u64 l3] 25)) 29 #[.bool false, .string ⟨#[]⟩, .slice none 0 0]
  have Q := ((Below.refl w.heap.size w).alloc (Nat.le_refl _) (.cells #[.int .u64 l0, .int .u64 l1, .int .u64 l2, .int .u64 l3] 25)).alloc (by simp) (.cells #[.bool false, .string ⟨#[]⟩, .slice none 0 0] 29)
  simp only [World.size_alloc] at NX
  obtain ⟨W1, hW1⟩ : ∃ W1, (w.alloc (.cells #[.int .u64 l0, .int .u64 l1, .int .u64 l2, .int .u64 l3] 25)).alloc (.cells #[.bool false, .string ⟨#[]⟩, .slice none 0 0] 29) = W1 := ⟨_, rfl⟩
  rw [hW1] at LX NX Q
  have k0 := LX.cell 0 _ rfl
  have k1 := LX.cell 1 _ rfl
  have k2 := LX.cell 2 _ rfl
  have k3 := LX.cell 3 _ rfl
  replace LX := Lib.hid LX
  replace Q := Lib.hid Q
  replace NX := Lib.hid NX
  go_enter Tryz.func18, Tryz.ntmps18
  go_wp2_with fail
  refine (HB.out _).mono ?_
  rintro _ W2 ⟨rfl, q⟩
  replace NX := Lib.hid (NX.out.later q)
  replace Q := Lib.hid (Q.out.trans (q.mono Q.out.size))
  clear k0 k1 k2 k3 LX q hW1
  go_wp2_with fail
  go_loop [3] (fun v => ∃ k : Nat, k ≤ bs.size ∧ v = .string ⟨(bs.data.toList.drop k).toArray⟩ ∧ noNought (bs.data.toList.drop k) = noNought bs.data.toList) (fun v => Lib.strSize v)
  case atStart => exact ⟨0, Nat.zero_le _, by simp, by simp⟩
  case round =>
    obtain ⟨k, hk, rfl, hc⟩ := hrel
    have hts : (⟨(bs.data.toList.drop k).toArray⟩ : ByteArray).size = bs.size - k := by rw [Lib.size_mk, List.length_drop, ← Lib.size_eq]
    have hb0 : ∀ h, bs.data.toList[k]? = some ((⟨(bs.data.toList.drop k).toArray⟩ : ByteArray)[0]'h) := by
      intro h
      rw [← Lib.getElem_mk (bs.data.toList.drop k) 0 h, List.getElem?_drop]
      rfl
    have hx1 : (⟨(bs.data.toList.drop k).toArray⟩ : ByteArray).extract 1 (bs.size - k) = ⟨(bs.data.toList.drop (k + 1)).toArray⟩ := by
      rw [Lib.extract_mk, List.drop_drop, List.take_of_length_le (by simp; omega)]
    have hK := Lib.hid hc
    clear hc
    generalize ht : (⟨(bs.data.toList.drop k).toArray⟩ : ByteArray) = t at hts hb0 hx1 ⊢
    have hK3 := Lib.hid ht
    clear ht
    have f0 := NX.out.frozen 0
    have f1 := NX.out.frozen 1
    have f2 := NX.out.frozen 2
    have x0 := NX.out.cell 0 _ rfl
    have x1 := NX.out.cell 1 _ rfl
    have x2 := NX.out.cell 2 _ rfl
    by_cases h0 : 0 < t.size
    · have hne : (t.toList == []) = false := by
        have hbl := bytes_ne (b := t) (c := ⟨#[]⟩) (fun h => by rw [h] at h0; exact absurd h0 (by decide))
        have e : (ByteArray.mk #[]).toList = [] := by rw [ByteArray.toList_eq]
        rw [e] at hbl
        exact hbl
      have hbk := Lib.hid (hb0 h0)
      clear hb0
      by_cases heq : t[0]'h0 = 0
      · have heq' : ((t[0]'h0).toNat : Int) = 0 := by rw [heq]; rfl
        have hz := Lib.hid heq
        clear heq
        go_wp2
        refine ⟨⟨k + 1, by omega, rfl, ?_⟩, ?_⟩
        · rw [← noNought_drop hbk.out hz.out, hK.out]
        · simp only [Lib.strSize]
          rw [← hx1, ByteArray.size_extract]
          omega
      · have heq' : ¬ ((t[0]'h0).toNat : Int) = 0 := fun h => heq (UInt8.toNat_inj.1 (by show (t[0]'h0).toNat = 0; omega))
        have hz := Lib.hid heq
        clear heq
        have S := ((NX.out.set 0 (.bool false)).set 1 (.string t)).set 2 (.slice none 0 0)
        have z0 := Lib.hid (S.cell 0 _ rfl)
        have z1 := Lib.hid (S.cell 1 _ rfl)
        have z2 := Lib.hid (S.cell 2 _ rfl)
        have hE := Lib.hid (show strV ds = .string t by
          rw [← hD.out, ← hK.out, noNought_stop hbk.out hz.out]
          exact congrArg Value.string hK3.out)
        clear S
        go_wp2
        have z0 := z0.out
        have z1 := z1.out
        have z2 := z2.out
        refine bodyPost_ret (v := .agg #[.bool false, .string t, .slice none 0 0]) (by simp [results, Tryz.results18, go_sem, z0, z1, z2]) rfl ⟨by rw [← hE.out], ?_⟩
        exact ((Q.out.setCell (by simp) _).setCell (by simp) _).setCell (by simp) _
    · have hz : t.size = 0 := by omega
      have ht0 : t = ⟨#[]⟩ := by
        have : t.data.toList.length = 0 := by rw [← Lib.size_eq]; exact hz
        exact ByteArray.ext (Array.toList_inj.1 (List.length_eq_zero_iff.1 this))
      have hE := Lib.hid (show strV ds = .string t by
        rw [← hD.out, ← hK.out]
        have : bs.data.toList.drop k = [] := List.drop_eq_nil_of_le (by rw [← Lib.size_eq]; omega)
        rw [this, ht0]; rfl)
      clear hb0 hx1
      replace hK3 := Lib.hid hK3
      have S := ((NX.out.set 0 (.bool false)).set 1 (.string ⟨#[]⟩)).set 2 (.slice none 0 0)
      have z0 := Lib.hid (S.cell 0 _ rfl)
      have z1 := Lib.hid (S.cell 1 _ rfl)
      have z2 := Lib.hid (S.cell 2 _ rfl)
      clear S
      subst ht0
      go_wp2
      have z0 := z0.out
      have z1 := z1.out
      have z2 := z2.out
      refine bodyPost_ret (v := .agg #[.bool false, .string ⟨#[]⟩, .slice none 0 0]) (by simp [results, Tryz.results18, go_sem, z0, z1, z2]) rfl ⟨by rw [← hE.out], ?_⟩
      exact ((Q.out.setCell (by simp) _).setCell (by simp) _).setCell (by simp) _
end Go.Proofs.YtbbpmcebakckaaaGreatDoor

/- The reference's head. Conditions: a kind of 128 or 192; a size that is an int. -/
namespace Go.Proofs.YtbbpmcebakckaaaGreatDoor
open Go Go.RowKit
attribute [local go_sem] Oper.semAt_some Grows wide_fn itemField1

theorem conv_byte (W : World) (g c : Nat) (hc : c < 256) (h : W.cell? ⟨g, 0, none⟩ = some (.int .u8 (c : Int))) : (convert 49 9 (.slice (some ⟨g, 0, none⟩) 1 1)).run Tryz.prog W = .ok (.string ⟨#[UInt8.ofNat c]⟩) W := by
  have e1 : ((UInt8.ofNat c).toNat : Int) = (c : Int) := by simp; omega
  have := run_convert_bytes_arg (P := Tryz.prog) W 49 5 Tryz.underlying49 Tryz.underlying5 g 0 1 1 ([UInt8.ofNat c].map fun b => (b.toNat : Int)) (by simp) (fun i hi => by
    obtain rfl : i = 0 := by omega
    rw [Nat.zero_add, h]
    simp
    omega) 9 Tryz.underlying9
  rw [strOf_list] at this
  exact this

set_option maxRecDepth 100000 in
set_option maxHeartbeats 2000000 in
theorem refHead_short (kind n : Nat) (hk : kind ≤ 192) (hn : n ≤ 55) : Ret Tryz.prog 52 #[.int .i64 (kind : Int), .int .i64 (n : Int)] (strV (headL kind n)) := by
  intro w
  have hh : headL kind n = [UInt8.ofNat (kind + n)] := if_pos hn
  rw [hh]
  have hnI : (n : Int) ≤ 55 := by omega
  have hkI : (kind : Int) ≤ 192 := by omega
  have q1 := (Below.refl w.heap.size w).alloc (Nat.le_refl _) (.cells #[.int .u8 ((kind : Int) + (n : Int))] 5)
  have N1 := Has.new w 5 #[.int .u8 ((kind : Int) + (n : Int))]
  have hcv := conv_byte (w.alloc (.cells #[.int .u8 ((kind : Int) + (n : Int))] 5)) w.heap.size (kind + n) (by omega) (by rw [N1.cell 0 _ rfl]; simp)
  replace N1 := Lib.hid N1
  replace q1 := Lib.hid q1
  generalize UInt8.ofNat (kind + n) = cc at *
  go_enter Tryz.func52, Tryz.ntmps52
  go_wp2_with fail
  go_ret
  exact ⟨rfl, q1.out⟩

set_option maxRecDepth 100000 in
set_option maxHeartbeats 2000000 in
theorem refHead_long (kind n : Nat) (hk : kind ≤ 192) (hn : 55 < n) (hn2 : n ≤ 4611686018427387903) : Ret Tryz.prog 52 #[.int .i64 (kind : Int), .int .i64 (n : Int)] (strV (headL kind n)) := by
  intro w
  have hh : headL kind n = UInt8.ofNat (kind + 55 + (digs n).length) :: digs n := if_neg (by omega)
  have h8 : (digs n).length ≤ 8 := digs_length (k := 8) (by
    have : (256 : Nat) ^ 8 = 18446744073709551616 := by decide
    omega)
  have hof := (refOf_ret (n : Int) (by unfold I64; omega))
  rw [ofN_nat] at hof
  have hnu := refNum_ret n (by unfold W256; omega)
  obtain ⟨ds, hds⟩ : ∃ ds : ByteArray, (⟨(digs n).toArray⟩ : ByteArray) = ds := ⟨_, rfl⟩
  have hsz : ((ds.size : Nat) : Int) = ((digs n).length : Int) := by rw [← hds]; simp [ByteArray.size]
  unfold txtV at hnu
  rw [show strV (digs n) = .string ds from congrArg Value.string hds] at hnu
  have hres : strV (headL kind n) = .string (⟨#[UInt8.ofNat (kind + 55 + (digs n).length)]⟩ ++ ds) := by
    rw [hh, ← hds]
    exact congrArg Value.string (ByteArray.ext (Array.toList_inj.1 (by simp)))
  rw [hres]
  generalize (digs n).length = dl at *
  unfold wv at hof hnu
  generalize lim n 0 = l0 at *
  generalize lim n 1 = l1 at *
  generalize lim n 2 = l2 at *
  generalize lim n 3 = l3 at *
  have hnI : ¬ (n : Int) ≤ 55 := by omega
  have hnI2 : (n : Int) ≤ 4611686018427387903 := by omega
  have hkI : (kind : Int) ≤ 192 := by omega
  have hdI : (dl : Int) ≤ 8 := by omega
  replace hof := Lib.hid hof
  replace hnu := Lib.hid hnu
  clear hds hres hh
  go_enter Tryz.func52, Tryz.ntmps52
  go_wp2_with fail
  refine (hof.out _).mono ?_
  rintro _ W1 ⟨rfl, q⟩
  have Q := Lib.hid q
  clear q
  go_wp2_with fail
  refine (hnu.out _).mono ?_
  rintro _ W2 ⟨rfl, q⟩
  replace Q := Lib.hid (Q.out.trans (q.mono Q.out.size))
  clear q
  have q1 := (Below.refl W2.heap.size W2).alloc (Nat.le_refl _) (.cells #[.int .u8 ((kind : Int) + 55 + (dl : Int))] 5)
  have N1 := Has.new W2 5 #[.int .u8 ((kind : Int) + 55 + (dl : Int))]
  have hcv := conv_byte (W2.alloc (.cells #[.int .u8 ((kind : Int) + 55 + (dl : Int))] 5)) W2.heap.size (kind + 55 + dl) (by omega) (by rw [N1.cell 0 _ rfl]; simp)
  replace N1 := Lib.hid N1
  replace Q := Lib.hid (Q.out.trans (q1.mono Q.out.size))
  clear q1
  have hs1 : (⟨#[UInt8.ofNat (kind + 55 + dl)]⟩ : ByteArray).size = 1 := rfl
  obtain ⟨cc, hcc⟩ : ∃ cc, UInt8.ofNat (kind + 55 + dl) = cc := ⟨_, rfl⟩
  rw [hcc] at hcv hs1
  replace hcc := Lib.hid hcc
  go_wp2_with fail
  go_ret
  refine ⟨?_, Q.out⟩
  rw [hcc.out]
  rfl

theorem refHead_ret (kind n : Nat) (hk : kind ≤ 192) (hn2 : n ≤ 4611686018427387903) : Ret Tryz.prog 52 #[.int .i64 (kind : Int), .int .i64 (n : Int)] (strV (headL kind n)) := by
  by_cases h : n ≤ 55
  · exact refHead_short kind n hk h
  · exact refHead_long kind n hk (by omega) hn2
end Go.Proofs.YtbbpmcebakckaaaGreatDoor

/- The reference's bytes of an item. Conditions: the item lies in memory; its bytes are at most 2^61. -/
namespace Go.Proofs.YtbbpmcebakckaaaGreatDoor
open Go Go.RowKit
attribute [local go_sem] Oper.semAt_some Grows wide_fn

def EncAt (t : It) : Prop := (encI t).length ≤ 2305843009213693952 → ∀ (v : Value) (W : World), ItemAt W t v →
  Calls Tryz.prog 31 #[v] W fun e W' => e = .returned (strV (encI t)) ∧ Below W.heap.size W W'
theorem sizeM (l : List UInt8) : (⟨l.toArray⟩ : ByteArray).size = l.length := by simp [ByteArray.size]
theorem headL_len {k n : Nat} (h : n < 256 ^ 8) : (headL k n).length ≤ 9 := by
  unfold headL
  have := digs_length h
  split <;> simp <;> omega
theorem strV_app (x y : List UInt8) : strV (x ++ y) = .string (⟨x.toArray⟩ ++ ⟨y.toArray⟩) := congrArg Value.string (ByteArray.ext (Array.toList_inj.1 (by simp)))

set_option maxRecDepth 100000 in
set_option maxHeartbeats 2000000 in
theorem bytes_text (b : ByteArray) (a : Option Addr) (n cap : Nat) (w : World) (hb : b.size ≤ 140737488355328) (hB : bareB b.data.toList = false) :
    Calls Tryz.prog 31 #[.agg #[.bool false, .string b, .slice a n cap]] w fun e W' => e = .returned (strV (headL 128 b.size ++ b.data.toList)) ∧ Below w.heap.size w W' := by
  have hmx : Tryz.prog.follows .mixedOrders = true := by kernel_rfl
  have hH : Ret Tryz.prog 52 #[.int .i64 128, .int .i64 (b.size : Int)] (strV (headL 128 b.size)) := refHead_ret 128 b.size (by omega) (by omega)
  have hl9 := headL_len (k := 128) (n := b.size) (by have : (256 : Nat) ^ 8 = 18446744073709551616 := by decide
                                                     omega)
  rw [strV_app, show (⟨b.data.toList.toArray⟩ : ByteArray) = b from rfl]
  obtain ⟨hd, hhd⟩ : ∃ hd : ByteArray, (⟨(headL 128 b.size).toArray⟩ : ByteArray) = hd := ⟨_, rfl⟩
  have hds : hd.size ≤ 9 := by rw [← hhd, sizeM]; exact hl9
  rw [show strV (headL 128 b.size) = .string hd from congrArg Value.string hhd] at hH
  rw [hhd]
  have hnb : ¬ ((b.size : Int) = 1 ∧ ∀ h, ((b[0]'h).toNat : Int) < 128) := fun ⟨h1, h2⟩ => by
    have h0 : b.data.toList.length = 1 := by rw [← Lib.size_eq]; omega
    match hbl : b.data.toList, h0 with
    | [c], _ =>
      rw [hbl] at hB
      have hp : 0 < b.size := by omega
      have h3 := h2 hp
      have h4 : byteAt b.data.toList 0 = (b[0]'hp).toNat := (byte_first rfl hp).symm
      rw [hbl] at h4
      have h5 : c.toNat = (b[0]'hp).toNat := h4
      simp [bareB] at hB
      omega
  clear hhd hl9 hB
  have LX := Has.new w 29 #[.bool false, .string b, .slice a n cap]
  have Q := (Below.refl w.heap.size w).alloc (Nat.le_refl _) (.cells #[.bool false, .string b, .slice a n cap] 29)
  obtain ⟨W1, hW1⟩ : ∃ W1, w.alloc (.cells #[.bool false, .string b, .slice a n cap] 29) = W1 := ⟨_, rfl⟩
  rw [hW1] at LX Q
  have k0 := LX.cell 0 _ rfl
  have k1 := LX.cell 1 _ rfl
  have y0 : ∀ X : Ext W1, X.w.cell? ⟨w.heap.size, 0, none⟩ = some (.bool false) := fun X => (LX.later X.below).cell 0 _ rfl
  have y1 : ∀ X : Ext W1, X.w.cell? ⟨w.heap.size, 1, none⟩ = some (.string b) := fun X => (LX.later X.below).cell 1 _ rfl
  replace hH := Lib.hid hH
  replace LX := Lib.hid LX
  replace Q := Lib.hid Q
  by_cases h1 : b.size = 1
  · have h1I : (b.size : Int) = 1 := by omega
    have hp : 0 < b.size := by omega
    have hge : ¬ ((b[0]'hp).toNat : Int) < 128 := fun h => hnb ⟨h1I, fun _ => h⟩
    have hH2 := hH.out
    rw [h1I] at hH2
    replace hH := Lib.hid hH2
    clear hH2
    replace hnb := Lib.hid hnb
    replace h1 := Lib.hid h1
    go_enter Tryz.func31, Tryz.ntmps31
    go_wp2_with fail
    refine wp_region_quietL (C := Grows W1) hmx (by kernel_rfl) (grows_refl W1) ?_
    repeat (go_big_quiet_step (first | (with_reducible exact Ret.at hH.out _)))
    refine wpQuiet_nil ?_
    rintro _ ⟨X, rfl⟩
    go_wp2_with fail
    go_ret
    exact ⟨rfl, Q.out.trans (X.below.mono Q.out.size)⟩
  · have h1I : ¬ (b.size : Int) = 1 := by omega
    replace hnb := Lib.hid hnb
    replace h1 := Lib.hid h1
    go_enter Tryz.func31, Tryz.ntmps31
    go_wp2_with fail
    refine wp_region_quietL (C := Grows W1) hmx (by kernel_rfl) (grows_refl W1) ?_
    repeat (go_big_quiet_step (first | (with_reducible exact Ret.at hH.out _)))
    refine wpQuiet_nil ?_
    rintro _ ⟨X, rfl⟩
    go_wp2_with fail
    go_ret
    exact ⟨rfl, Q.out.trans (X.below.mono Q.out.size)⟩

set_option maxRecDepth 100000 in
set_option maxHeartbeats 2000000 in
theorem bytes_bare (b : ByteArray) (a : Option Addr) (n cap : Nat) (w : World) (hB : bareB b.data.toList = true) :
    Calls Tryz.prog 31 #[.agg #[.bool false, .string b, .slice a n cap]] w fun e W' => e = .returned (strV b.data.toList) ∧ Below w.heap.size w W' := by
  have hmx : Tryz.prog.follows .mixedOrders = true := by kernel_rfl
  rw [show strV b.data.toList = .string b from rfl]
  have h1 : b.size = 1 := by
    unfold bareB at hB
    split at hB
    · rename_i c hc; rw [Lib.size_eq, hc]; rfl
    · cases hB
  have hp : 0 < b.size := by omega
  have h1I : (b.size : Int) = 1 := by omega
  have hlt : ((b[0]'hp).toNat : Int) < 128 := by
    have h4 : (b[0]'hp).toNat = byteAt b.data.toList 0 := byte_first rfl hp
    rw [h4]
    unfold bareB at hB
    split at hB
    · rename_i c hc
      rw [hc]
      have : c.toNat < 128 := of_decide_eq_true hB
      show ((c.toNat : Nat) : Int) < 128
      omega
    · cases hB
  have LX := Has.new w 29 #[.bool false, .string b, .slice a n cap]
  have Q := (Below.refl w.heap.size w).alloc (Nat.le_refl _) (.cells #[.bool false, .string b, .slice a n cap] 29)
  obtain ⟨W1, hW1⟩ : ∃ W1, w.alloc (.cells #[.bool false, .string b, .slice a n cap] 29) = W1 := ⟨_, rfl⟩
  rw [hW1] at LX Q
  have k0 := LX.cell 0 _ rfl
  have k1 := LX.cell 1 _ rfl
  replace LX := Lib.hid LX
  replace Q := Lib.hid Q
  replace h1 := Lib.hid h1
  clear hB
  go_enter Tryz.func31, Tryz.ntmps31
  go_wp2_with fail
  go_ret
  exact ⟨rfl, Q.out⟩

set_option maxRecDepth 100000 in
set_option maxHeartbeats 4000000 in
theorem bytes_list (b : ByteArray) (ks : List It) (IH : ∀ k ∈ ks, EncAt k) (hlen : (encI (.mk true b ks)).length ≤ 2305843009213693952) (a : Option Addr) (cap : Nat) (w : World) (hk : KidsIn w ks a) (hn : ks.length ≤ 1099511627776) :
    Calls Tryz.prog 31 #[.agg #[.bool true, .string b, .slice a ks.length cap]] w fun e W' => e = .returned (strV (encI (.mk true b ks))) ∧ Below w.heap.size w W' := by
  have hmx : Tryz.prog.follows .mixedOrders = true := by kernel_rfl
  have hE : encI (.mk true b ks) = headL 192 (encL ks).length ++ encL ks := by rw [encI]; simp
  rw [hE] at hlen ⊢
  have hlenL : (encL ks).length ≤ 2305843009213693952 := by rw [List.length_append] at hlen; omega
  have HI := Lib.hid IH
  have HK := Lib.hid hk
  have hp := Lib.hid (encL_part ks)
  clear IH hk hE hlen
  have hH := refHead_ret 192 (encL ks).length (by omega) (by omega)
  have hl9 := headL_len (k := 192) (n := (encL ks).length) (by have : (256 : Nat) ^ 8 = 18446744073709551616 := by decide
                                                               omega)
  rw [strV_app]
  obtain ⟨hd, hhd⟩ : ∃ hd : ByteArray, (⟨(headL 192 (encL ks).length).toArray⟩ : ByteArray) = hd := ⟨_, rfl⟩
  have hds : hd.size ≤ 9 := by rw [← hhd, sizeM]; exact hl9
  rw [show strV (headL 192 (encL ks).length) = .string hd from congrArg Value.string hhd] at hH
  rw [hhd]
  obtain ⟨n, en⟩ : ∃ n, ks.length = n := ⟨_, rfl⟩
  rw [en] at hn ⊢
  have hall : encL (ks.take n) = encL ks := by rw [← en, List.take_length]
  replace en := Lib.hid en
  replace hall := Lib.hid hall
  replace hH := Lib.hid hH
  replace hlenL := Lib.hid hlenL
  clear hhd hl9
  have LX := Has.new w 29 #[.bool true, .string b, .slice a n cap]
  have k0 := LX.cell 0 _ rfl
  have k1 := LX.cell 1 _ rfl
  have k2 := LX.cell 2 _ rfl
  have Q := (Below.refl w.heap.size w).alloc (Nat.le_refl _) (.cells #[.bool true, .string b, .slice a n cap] 29)
  obtain ⟨W1, hW1⟩ : ∃ W1, w.alloc (.cells #[.bool true, .string b, .slice a n cap] 29) = W1 := ⟨_, rfl⟩
  rw [hW1] at LX k0 k1 k2 Q
  go_enter Tryz.func31, Tryz.ntmps31
  go_wp2_with fail
  clear k0 k1 k2
  go_loopw [3, 4] (fun sv i wr => ∃ k : Nat, k ≤ n ∧ i = .int .i64 (k : Int) ∧ sv = strV (encL (ks.take k)) ∧ Has wr w.heap.size 29 #[.bool true, .string b, .slice a n cap] ∧ Below w.heap.size w wr) (fun _ i _ => n - (intOf i).toNat)
  case atStart => exact ⟨0, by omega, rfl, by simp [encL], hW1 ▸ LX, hW1 ▸ Q⟩
  case round =>
    clear LX Q hW1
    obtain ⟨k, hkn, rfl, rfl, LX, Q⟩ := hrel
    have m1 := LX.cell 2 _ rfl
    have hsz : (⟨(encL (ks.take k)).toArray⟩ : ByteArray).size = (encL (ks.take k)).length := sizeM _
    have hpk := hp.out k
    by_cases hk5 : k < n
    · have hkI : (k : Int) < (n : Int) := by omega
      have hk0 : (0 : Int) ≤ (k : Int) := by omega
      obtain ⟨g, o, rfl, hK⟩ := HK.out.resolve_left (fun h => by have h2 := en.out; rw [h] at h2; simp at h2; omega)
      obtain ⟨kx, hkx⟩ : ∃ kx, ks[k]? = some kx := ⟨_, List.getElem?_eq_getElem (by have := en.out; omega)⟩
      have hmem : kx ∈ ks := List.mem_of_getElem? hkx
      obtain ⟨v0, v1, v2, d0, d1, d2, hi⟩ := hK.get k _ hkx
      have e1 := encL_take ks k kx hkx
      have hp1 := hp.out (k + 1)
      rw [e1, List.length_append] at hp1
      have hlenL2 := hlenL.out
      have y0 : wr.cell? ⟨g, o + k * 3, none⟩ = some v0 := (Q.cell (p := ⟨g, _, none⟩) (ltCell d0)).trans d0
      have y1 : wr.cell? ⟨g, o + k * 3 + 1, none⟩ = some v1 := (Q.cell (p := ⟨g, _, none⟩) (ltCell d0)).trans d1
      have y2 : wr.cell? ⟨g, o + k * 3 + 2, none⟩ = some v2 := (Q.cell (p := ⟨g, _, none⟩) (ltCell d0)).trans d2
      have HC := HI.out kx hmem (by omega) _ _ (hi.later Q)
      have hsx : (⟨(encI kx).toArray⟩ : ByteArray).size = (encI kx).length := sizeM _
      have hres := strV_app (encL (ks.take k)) (encI kx)
      rw [← e1] at hres
      obtain ⟨sa, hsa⟩ : ∃ sa : ByteArray, (⟨(encL (ks.take k)).toArray⟩ : ByteArray) = sa := ⟨_, rfl⟩
      obtain ⟨sx, hsx2⟩ : ∃ sx : ByteArray, (⟨(encI kx).toArray⟩ : ByteArray) = sx := ⟨_, rfl⟩
      unfold strV at HC hres ⊢
      rw [hsa] at hsz hres ⊢
      rw [hsx2] at hsx HC hres
      have hsum : sa.size + sx.size ≤ 2305843009213693952 := by omega
      have hs1 : sa.size ≤ 2305843009213693952 := by omega
      replace hres := Lib.hid hres
      replace HC := Lib.hid HC
      replace LX := Lib.hid LX
      replace Q := Lib.hid Q
      replace hsz := Lib.hid hsz
      replace hsx := Lib.hid hsx
      replace e1 := Lib.hid e1
      clear d0 d1 d2 hi hK HK hkx hp1 hpk hlenL2
      replace hsa := Lib.hid hsa
      replace hsx2 := Lib.hid hsx2
      go_wp2_with fail
      refine HC.out.mono ?_
      rintro _ W2 ⟨rfl, q⟩
      replace LX := Lib.hid (LX.out.later q)
      replace Q := Lib.hid (Q.out.trans (q.mono Q.out.size))
      clear y0 y1 y2 HC m1 q
      go_wp2_with fail
      go_roundw
      case rel => exact ⟨k + 1, by omega, by simp, hres.out.symm, LX.out, Q.out⟩
      case measure => simp [intOf]; omega
    · have hkI : ¬ (k : Int) < (n : Int) := by omega
      obtain rfl : k = n := by omega
      rw [hall.out] at hsz ⊢
      obtain ⟨sa, hsa⟩ : ∃ sa : ByteArray, (⟨(encL ks).toArray⟩ : ByteArray) = sa := ⟨_, rfl⟩
      have hH2 := hH.out
      unfold strV
      rw [hsa] at hsz ⊢
      rw [← hsz] at hH2
      have hs1 : sa.size ≤ 2305843009213693952 := by have := hlenL.out; omega
      replace hH2 := Lib.hid hH2
      replace hsz := Lib.hid hsz
      replace Q := Lib.hid Q
      replace LX := Lib.hid LX
      clear hpk
      go_wp2_with fail
      refine (hH2.out _).mono ?_
      rintro _ W2 ⟨rfl, q⟩
      replace Q := Lib.hid (Q.out.trans (q.mono Q.out.size))
      clear q
      go_wp2_with fail
      go_ret
      exact ⟨by rw [hsa]; rfl, Q.out⟩
theorem refBytesI : ∀ t : It, EncAt t := fun t => It.induct (P := EncAt) (fun t ih => by
  obtain ⟨l, b, ks⟩ := t
  intro hlen v w ht
  obtain ⟨a, cap, rfl, hn, hs, hk⟩ := ht.open
  cases l with
  | true => exact bytes_list b ks ih hlen a cap w hk hn
  | false =>
    have hE : encI (.mk false b ks) = if bareB b.data.toList then b.data.toList else headL 128 b.data.toList.length ++ b.data.toList := by rw [encI]; simp
    rcases hB : bareB b.data.toList with _ | _
    · rw [hE, hB]
      have := bytes_text b a ks.length cap w hs hB
      rw [← Lib.size_eq]
      exact this
    · rw [hE, hB]
      exact bytes_bare b a ks.length cap w hB) t
end Go.Proofs.YtbbpmcebakckaaaGreatDoor
