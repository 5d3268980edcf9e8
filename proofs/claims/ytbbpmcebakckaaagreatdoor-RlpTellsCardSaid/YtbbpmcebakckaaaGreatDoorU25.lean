import Derived.Test.YtbbpmcebakckaaaGreatDoorU22
import Derived.Test.YtbbpmcebakckaaaGreatDoorU12
import Derived.Test.YtbbpmcebakckaaaGreatDoorU18
import Derived.Test.YtbbpmcebakckaaaGreatDoorU09
/- The reference's Encode. Conditions: the item lies in memory; its bytes are at most 2^61. -/
namespace Go.Proofs.YtbbpmcebakckaaaGreatDoor
open Go Go.RowKit
attribute [local go_sem] Oper.semAt_some Grows wide_fn

set_option maxRecDepth 100000 in
set_option maxHeartbeats 2000000 in
theorem refEncode_any (t : It) (hsz : (encI t).length ≤ 2305843009213693952) (v : Value) (w : World) (ht : ItemAt w t v) :
    Calls Tryz.prog 11 #[v] w fun e w' => e = .returned (.tuple #[strV (encS t), .int .i64 (encE t : Int)]) ∧ Below w.heap.size w w' := by
  have hmx : Tryz.prog.follows .mixedOrders = true := by kernel_rfl
  obtain ⟨a, cap, rfl, hn, hs, hk⟩ := ht.open
  clear hk hs hn
  have HRT := Lib.hid (fun W (hW : Below w.heap.size w W) => refRight t _ W (ht.later hW))
  have HBY := Lib.hid (fun W (hW : Below w.heap.size w W) => refBytesI t hsz _ W (ht.later hW))
  have Q := (Below.refl w.heap.size w).alloc (Nat.le_refl _) (.cells #[.bool t.list, .string t.bytes, .slice a t.kids.length cap] 29)
  have LX := Has.new w 29 #[.bool t.list, .string t.bytes, .slice a t.kids.length cap]
  clear ht hsz
  generalize t.bytes = b at *
  generalize t.kids.length = n at *
  generalize t.list = tl at *
  obtain ⟨W1, hW1⟩ : ∃ W1, w.alloc (.cells #[.bool tl, .string b, .slice a n cap] 29) = W1 := ⟨_, rfl⟩
  rw [hW1] at Q LX
  have c0 := LX.cell 0 _ rfl
  have c1 := LX.cell 1 _ rfl
  have c2 := LX.cell 2 _ rfl
  replace LX := Lib.hid LX
  replace Q := Lib.hid Q
  go_enter Tryz.func11, Tryz.ntmps11
  go_wp2_with fail
  refine (HRT.out _ Q.out).mono ?_
  rintro _ W2 ⟨rfl, q⟩
  replace LX := Lib.hid (LX.out.later q)
  replace Q := Lib.hid (Q.out.trans (q.mono Q.out.size))
  clear q c0 c1 c2 hW1 HRT
  have c0 := LX.out.cell 0 _ rfl
  have c1 := LX.out.cell 1 _ rfl
  have c2 := LX.out.cell 2 _ rfl
  rcases hok : okI t with _ | _
  · have hE := Lib.hid (encE_bad hok)
    have hS := Lib.hid (encS_bad (t := t) (by rw [encE_bad hok]; decide))
    replace hok := Lib.hid hok
    go_wp2_with fail
    go_ret2
    exact ⟨by rw [hE.out, hS.out]; rfl, Q.out⟩
  · have hokH := Lib.hid hok
    have HC := Lib.hid (HBY.out _ Q.out)
    have hsx := sizeM (encI t)
    clear hok HBY
    obtain ⟨sx, hsx2⟩ : ∃ sx : ByteArray, (⟨(encI t).toArray⟩ : ByteArray) = sx := ⟨_, rfl⟩
    unfold strV at HC
    rw [hsx2] at hsx HC
    replace hsx2 := Lib.hid hsx2
    go_wp2_with fail
    refine HC.out.mono ?_
    rintro _ W3 ⟨rfl, q⟩
    replace Q := Lib.hid (Q.out.trans (q.mono Q.out.size))
    clear q c0 c1 c2 HC LX
    by_cases hl : (encI t).length ≤ 1048576
    · have hE := Lib.hid (encE_good hokH.out hl)
      have hS := Lib.hid (encS_good (encE_good hokH.out hl))
      have hlI : ((sx.size : Nat) : Int) ≤ 1048576 := by omega
      replace hsx := Lib.hid hsx
      replace hl := Lib.hid hl
      go_wp2_with fail
      go_ret2
      exact ⟨by rw [hE.out, hS.out, ← hsx2.out]; rfl, Q.out⟩
    · have hE := Lib.hid (encE_long hokH.out hl)
      have hS := Lib.hid (encS_bad (t := t) (by rw [encE_long hokH.out hl]; decide))
      have hlI : ¬ ((sx.size : Nat) : Int) ≤ 1048576 := by omega
      have hlI2 : (1048576 : Int) < ((sx.size : Nat) : Int) := by omega
      replace hsx := Lib.hid hsx
      replace hl := Lib.hid hl
      go_wp2_with fail
      go_ret2
      exact ⟨by rw [hE.out, hS.out]; rfl, Q.out⟩
end Go.Proofs.YtbbpmcebakckaaaGreatDoor

/- The reference's Value. Conditions: the item lies in memory. -/
namespace Go.Proofs.YtbbpmcebakckaaaGreatDoor
open Go Go.RowKit
attribute [local go_sem] Oper.semAt_some Grows wide_fn

theorem valB_iff (t : It) : valB t = true ↔ t.list = false ∧ t.kids = [] ∧ t.bytes.size ≤ 32 ∧ Bare t.bytes.data.toList := by
  obtain ⟨l, b, ks⟩ := t
  have hL : b.size = b.data.toList.length := Lib.size_eq b
  constructor
  · intro h
    have he : (It.mk l b ks) = .mk false ⟨(digs (valW (.mk l b ks))).toArray⟩ [] := by
      unfold valB sameI at h
      exact @of_decide_eq_true _ (Classical.propDecidable _) h
    have hw := digs_w (valW_lt (.mk l b ks))
    have hb := digs_bare (valW (.mk l b ks))
    injection he with h1 h2 h3
    have h4 : b.data.toList = digs (valW (.mk l b ks)) := by
      have := congrArg (fun x : ByteArray => x.data.toList) h2
      simpa using this
    refine ⟨h1, h3, ?_, ?_⟩
    · show b.size ≤ 32
      rw [hL, h4]; exact hw
    · show Bare b.data.toList
      rw [h4]; exact hb
  · rintro ⟨h1, h2, h3, h4⟩
    simp only [It.list, It.kids, It.bytes] at h1 h2 h3 h4
    subst h1 h2
    have hv : valW (.mk false b []) = val256 0 b.data.toList := by
      unfold valW
      exact fromB_short (show b.data.toList.length ≤ 32 by rw [← hL]; exact h3)
    have hd := digs_val _ b.data.toList rfl h4
    have : It.mk false ⟨(digs (valW (.mk false b []))).toArray⟩ [] = .mk false b [] := by
      rw [hv, hd]
    unfold valB
    rw [this]
    exact same_self _
theorem valB_not {t : It} (h : ¬ (t.list = false ∧ t.kids = [] ∧ t.bytes.size ≤ 32 ∧ Bare t.bytes.data.toList)) : valB t = false := by
  rcases hb : valB t with _ | _
  · rfl
  · exact absurd ((valB_iff t).1 hb) h
theorem bare_first {b : ByteArray} (hp : 0 < b.size) : Bare b.data.toList ↔ ¬ ((b[0]'hp).toNat : Int) = 0 := by
  have h4 : (b[0]'hp).toNat = byteAt b.data.toList 0 := byte_first rfl hp
  rw [h4]
  have h0 : 0 < b.data.toList.length := by rw [← Lib.size_eq]; exact hp
  match hl : b.data.toList, h0 with
  | c :: r, _ =>
    constructor
    · intro h he
      have : c.toNat = 0 := by
        have : ((c.toNat : Nat) : Int) = 0 := he
        omega
      exact h c r rfl (UInt8.toNat_inj.1 this)
    · intro h c' r' he hc
      injection he with e1 e2
      subst e1
      exact h (by rw [hc]; rfl)
theorem wv_nought : wv 0 = .agg #[.int .u64 0, .int .u64 0, .int .u64 0, .int .u64 0] := wv_of ⟨by decide, by decide, by decide, by decide⟩

set_option maxRecDepth 100000 in
set_option maxHeartbeats 4000000 in
theorem refValue_any (t : It) (v : Value) (w : World) (ht : ItemAt w t v) : Calls Tryz.prog 13 #[v] w fun e w' => e = .returned (.tuple #[wv (valN t), .bool (valB t)]) ∧ Below w.heap.size w w' := by
  have hmx : Tryz.prog.follows .mixedOrders = true := by kernel_rfl
  obtain ⟨a, cap, rfl, hn, hs, hk⟩ := ht.open
  have HF := Lib.hid (show ∀ w, Calls Tryz.prog 33 #[.string t.bytes] w fun e w' => e = .returned (wv (valW t)) ∧ Below w.heap.size w w' from fun w => refFromBytes_ret t.bytes hs w)
  have hI := Lib.hid (valB_iff t)
  have hNot := Lib.hid (@valB_not t)
  have hBare := Lib.hid (@bare_first t.bytes)
  have hkl : t.kids = [] ↔ t.kids.length = 0 := List.length_eq_zero_iff.symm
  have hN := Lib.hid (show valN t = if valB t then valW t else 0 from rfl)
  have hb0 := Lib.hid (show t.bytes.size = 0 → Bare t.bytes.data.toList from fun h c r he => by
    have : t.bytes.data.toList.length = 0 := by rw [← Lib.size_eq]; exact h
    rw [he] at this
    cases this)
  have hb1 := Lib.hid (show t.bytes.size = 0 → t.bytes = ⟨#[]⟩ from fun h => by
    have : t.bytes.data.toList.length = 0 := by rw [← Lib.size_eq]; exact h
    exact ByteArray.ext (Array.toList_inj.1 (List.length_eq_zero_iff.1 this)))
  rw [hkl] at hI hNot
  clear ht hk hkl
  generalize valB t = vb at *
  generalize valN t = vn at *
  generalize valW t = vw at *
  generalize Bare t.bytes.data.toList = br at *
  generalize t.bytes = b at *
  generalize t.list = l at *
  generalize t.kids.length = n at *
  have LX := (Has.new w 29 #[.bool l, .string b, .slice a n cap]).alloc (.cells #[.int .u64 0, .int .u64 0, .int .u64 0, .int .u64 0] 25)
  have LR := Has.new (w.alloc (.cells #[.bool l, .string b, .slice a n cap] 29)) 25 #[.int .u64 0, .int .u64 0, .int .u64 0, .int .u64 0]
  rw [World.size_alloc] at LR
  have Q := ((Below.refl w.heap.size w).alloc (Nat.le_refl _) (.cells #[.bool l, .string b, .slice a n cap] 29)).alloc (by simp) (.cells #[.int .u64 0, .int .u64 0, .int .u64 0, .int .u64 0] 25)
  obtain ⟨W1, hW1⟩ : ∃ W1, (w.alloc (.cells #[.bool l, .string b, .slice a n cap] 29)).alloc (.cells #[.int .u64 0, .int .u64 0, .int .u64 0, .int .u64 0] 25) = W1 := ⟨_, rfl⟩
  rw [hW1] at LX LR Q
  have c0 := LX.cell 0 _ rfl
  have c1 := LX.cell 1 _ rfl
  have c2 := LX.cell 2 _ rfl
  have x0 := LR.cell 0 _ rfl
  have x1 := LR.cell 1 _ rfl
  have x2 := LR.cell 2 _ rfl
  have x3 := LR.cell 3 _ rfl
  have f0 := LR.frozen 0
  have f1 := LR.frozen 1
  have f2 := LR.frozen 2
  have f3 := LR.frozen 3
  have S0 := Lib.hid ((((LR.set 0 (.int .u64 0)).set 1 (.int .u64 0)).set 2 (.int .u64 0)).set 3 (.int .u64 0))
  have QS := Lib.hid ((((Q.setCell (p := ⟨w.heap.size + 1, 0, none⟩) (by simp) (.int .u64 0)).setCell (p := ⟨w.heap.size + 1, 1, none⟩) (by simp) (.int .u64 0)).setCell (p := ⟨w.heap.size + 1, 2, none⟩) (by simp) (.int .u64 0)).setCell (p := ⟨w.heap.size + 1, 3, none⟩) (by simp) (.int .u64 0))
  replace LX := Lib.hid LX
  replace LR := Lib.hid LR
  replace Q := Lib.hid Q
  have hnoV : vb = false → Value.tuple #[wv vn, .bool vb] = .tuple #[.agg #[.int .u64 0, .int .u64 0, .int .u64 0, .int .u64 0], .bool false] := fun h => by
    have := hN.out
    rw [h] at this
    rw [this, h]
    show Value.tuple #[wv 0, .bool false] = _
    rw [wv_nought]
  have hyesV : vb = true → Value.tuple #[wv vn, .bool vb] = .tuple #[wv vw, .bool true] := fun h => by
    have := hN.out
    rw [h] at this
    rw [this, h]
    rfl
  replace hnoV := Lib.hid hnoV
  replace hyesV := Lib.hid hyesV
  cases l with
  | true =>
    have hV := Lib.hid (hnoV.out (hNot.out (fun h => by cases h.1)))
    go_enter Tryz.func13, Tryz.ntmps13
    go_wp2_with fail
    have z0 := S0.out.cell 0 _ rfl
    have z1 := S0.out.cell 1 _ rfl
    have z2 := S0.out.cell 2 _ rfl
    have z3 := S0.out.cell 3 _ rfl
    exact bodyPost_ret (v := .tuple #[.agg #[.int .u64 0, .int .u64 0, .int .u64 0, .int .u64 0], .bool false]) (by simp [results, Tryz.results13, go_sem, z0, z1, z2, z3]) rfl ⟨by rw [hV.out], QS.out⟩
  | false =>
    by_cases hn0 : n = 0
    · by_cases h32 : b.size ≤ 32
      · by_cases hz : b.size = 0
        · have hV := Lib.hid (hyesV.out (hI.out.2 ⟨rfl, hn0, h32, hb0.out hz⟩))
          have hbe := hb1.out hz
          have hnI : (n : Int) = 0 := by omega
          have hnI2 : ¬ (0 : Int) < (n : Int) := by omega
          have hsI : ¬ (32 : Int) < (b.size : Int) := by omega
          clear hI hNot hBare hN hb0 hb1 hnoV hyesV hs hn
          replace hn0 := Lib.hid hn0
          replace h32 := Lib.hid h32
          replace hz := Lib.hid hz
          subst hbe
          unfold wv at HF
          go_enter Tryz.func13, Tryz.ntmps13
          go_wp2_with fail
          refine (HF.out _).mono ?_
          rintro _ W2 ⟨rfl, q⟩
          replace LR := LR.out.later q
          replace Q := Q.out.trans (q.mono Q.out.size)
          clear c0 c1 c2 x0 x1 x2 x3 f0 f1 f2 f3 q
          have x0 := LR.cell 0 _ rfl
          have x1 := LR.cell 1 _ rfl
          have x2 := LR.cell 2 _ rfl
          have x3 := LR.cell 3 _ rfl
          have f0 := LR.frozen 0
          have f1 := LR.frozen 1
          have f2 := LR.frozen 2
          have f3 := LR.frozen 3
          have S := Lib.hid ((((LR.set 0 (.int .u64 (lim vw 0))).set 1 (.int .u64 (lim vw 1))).set 2 (.int .u64 (lim vw 2))).set 3 (.int .u64 (lim vw 3)))
          have QT := Lib.hid ((((Q.setCell (p := ⟨w.heap.size + 1, 0, none⟩) (by simp) (.int .u64 (lim vw 0))).setCell (p := ⟨w.heap.size + 1, 1, none⟩) (by simp) (.int .u64 (lim vw 1))).setCell (p := ⟨w.heap.size + 1, 2, none⟩) (by simp) (.int .u64 (lim vw 2))).setCell (p := ⟨w.heap.size + 1, 3, none⟩) (by simp) (.int .u64 (lim vw 3)))
          replace LR := Lib.hid LR
          replace Q := Lib.hid Q
          go_wp2_with fail
          have z0 := S.out.cell 0 _ rfl
          have z1 := S.out.cell 1 _ rfl
          have z2 := S.out.cell 2 _ rfl
          have z3 := S.out.cell 3 _ rfl
          exact bodyPost_ret (v := .tuple #[.agg #[.int .u64 (lim vw 0), .int .u64 (lim vw 1), .int .u64 (lim vw 2), .int .u64 (lim vw 3)], .bool true]) (by simp [results, Tryz.results13, go_sem, z0, z1, z2, z3]) rfl ⟨by rw [hV.out]; rfl, QT.out⟩
        · have hp : 0 < b.size := by omega
          have hnI2 : ¬ (0 : Int) < (n : Int) := by omega
          have hsI : ¬ (32 : Int) < (b.size : Int) := by omega
          have hne : (b.toList == []) = false := by
            have hbl := bytes_ne (b := b) (c := ⟨#[]⟩) (fun h => by rw [h] at hp; exact absurd hp (by decide))
            have e : (ByteArray.mk #[]).toList = [] := by rw [ByteArray.toList_eq]
            rw [e] at hbl
            exact hbl
          by_cases he0 : ((b[0]'hp).toNat : Int) = 0
          · have hV := Lib.hid (hnoV.out (hNot.out (fun h => ((hBare.out hp).1 h.2.2.2) he0)))
            clear hI hNot hBare hN hb0 hb1 hnoV hyesV hs hn
            replace hn0 := Lib.hid hn0
            replace h32 := Lib.hid h32
            replace hz := Lib.hid hz
            go_enter Tryz.func13, Tryz.ntmps13
            go_wp2_with fail
            have z0 := S0.out.cell 0 _ rfl
            have z1 := S0.out.cell 1 _ rfl
            have z2 := S0.out.cell 2 _ rfl
            have z3 := S0.out.cell 3 _ rfl
            exact bodyPost_ret (v := .tuple #[.agg #[.int .u64 0, .int .u64 0, .int .u64 0, .int .u64 0], .bool false]) (by simp [results, Tryz.results13, go_sem, z0, z1, z2, z3]) rfl ⟨by rw [hV.out], QS.out⟩
          · have hV := Lib.hid (hyesV.out (hI.out.2 ⟨rfl, hn0, h32, (hBare.out hp).2 he0⟩))
            clear hI hNot hBare hN hb0 hb1 hnoV hyesV hs hn
            replace hn0 := Lib.hid hn0
            replace h32 := Lib.hid h32
            replace hz := Lib.hid hz
            unfold wv at HF
            go_enter Tryz.func13, Tryz.ntmps13
            go_wp2_with fail
            refine (HF.out _).mono ?_
            rintro _ W2 ⟨rfl, q⟩
            replace LR := LR.out.later q
            replace Q := Q.out.trans (q.mono Q.out.size)
            clear c0 c1 c2 x0 x1 x2 x3 f0 f1 f2 f3 q
            have x0 := LR.cell 0 _ rfl
            have x1 := LR.cell 1 _ rfl
            have x2 := LR.cell 2 _ rfl
            have x3 := LR.cell 3 _ rfl
            have f0 := LR.frozen 0
            have f1 := LR.frozen 1
            have f2 := LR.frozen 2
            have f3 := LR.frozen 3
            have S := Lib.hid ((((LR.set 0 (.int .u64 (lim vw 0))).set 1 (.int .u64 (lim vw 1))).set 2 (.int .u64 (lim vw 2))).set 3 (.int .u64 (lim vw 3)))
            have QT := Lib.hid ((((Q.setCell (p := ⟨w.heap.size + 1, 0, none⟩) (by simp) (.int .u64 (lim vw 0))).setCell (p := ⟨w.heap.size + 1, 1, none⟩) (by simp) (.int .u64 (lim vw 1))).setCell (p := ⟨w.heap.size + 1, 2, none⟩) (by simp) (.int .u64 (lim vw 2))).setCell (p := ⟨w.heap.size + 1, 3, none⟩) (by simp) (.int .u64 (lim vw 3)))
            replace LR := Lib.hid LR
            replace Q := Lib.hid Q
            go_wp2_with fail
            have z0 := S.out.cell 0 _ rfl
            have z1 := S.out.cell 1 _ rfl
            have z2 := S.out.cell 2 _ rfl
            have z3 := S.out.cell 3 _ rfl
            exact bodyPost_ret (v := .tuple #[.agg #[.int .u64 (lim vw 0), .int .u64 (lim vw 1), .int .u64 (lim vw 2), .int .u64 (lim vw 3)], .bool true]) (by simp [results, Tryz.results13, go_sem, z0, z1, z2, z3]) rfl ⟨by rw [hV.out]; rfl, QT.out⟩
      · have hV := Lib.hid (hnoV.out (hNot.out (fun h => h32 h.2.2.1)))
        have hnI2 : ¬ (0 : Int) < (n : Int) := by omega
        have hsI : (32 : Int) < (b.size : Int) := by omega
        clear hI hNot hBare hN hb0 hb1 hnoV hyesV hs hn
        replace hn0 := Lib.hid hn0
        replace h32 := Lib.hid h32
        go_enter Tryz.func13, Tryz.ntmps13
        go_wp2_with fail
        have z0 := S0.out.cell 0 _ rfl
        have z1 := S0.out.cell 1 _ rfl
        have z2 := S0.out.cell 2 _ rfl
        have z3 := S0.out.cell 3 _ rfl
        exact bodyPost_ret (v := .tuple #[.agg #[.int .u64 0, .int .u64 0, .int .u64 0, .int .u64 0], .bool false]) (by simp [results, Tryz.results13, go_sem, z0, z1, z2, z3]) rfl ⟨by rw [hV.out], QS.out⟩
    · have hV := Lib.hid (hnoV.out (hNot.out (fun h => hn0 h.2.1)))
      have hnI2 : (0 : Int) < (n : Int) := by omega
      clear hI hNot hBare hN hb0 hb1 hnoV hyesV hs hn
      replace hn0 := Lib.hid hn0
      go_enter Tryz.func13, Tryz.ntmps13
      go_wp2_with fail
      have z0 := S0.out.cell 0 _ rfl
      have z1 := S0.out.cell 1 _ rfl
      have z2 := S0.out.cell 2 _ rfl
      have z3 := S0.out.cell 3 _ rfl
      exact bodyPost_ret (v := .tuple #[.agg #[.int .u64 0, .int .u64 0, .int .u64 0, .int .u64 0], .bool false]) (by simp [results, Tryz.results13, go_sem, z0, z1, z2, z3]) rfl ⟨by rw [hV.out], QS.out⟩
end Go.Proofs.YtbbpmcebakckaaaGreatDoor

/- The reference's Text and List. Conditions: none. -/
namespace Go.Proofs.YtbbpmcebakckaaaGreatDoor
open Go Go.RowKit
attribute [local go_sem] Oper.semAt_some Grows wide_fn

set_option maxRecDepth 100000 in
set_option maxHeartbeats 2000000 in
theorem refText_any (s : ByteArray) (w : World) : Calls Tryz.prog 19 #[.string s] w fun e w' => e = .returned (.agg #[.bool false, .string s, .slice none 0 0]) ∧ Below w.heap.size w w' := by
  have LX := Has.new w 29 #[.bool false, .string s, .slice none 0 0]
  have Q := Lib.hid ((Below.refl w.heap.size w).alloc (Nat.le_refl _) (.cells #[.bool false, .string s, .slice none 0 0] 29))
  have k1 := LX.cell 0 _ rfl
  have k2 := LX.cell 1 _ rfl
  have k3 := LX.cell 2 _ rfl
  have NX := Has.new w 29 #[.bool false, .string ⟨#[]⟩, .slice none 0 0]
  have f0 := NX.frozen 0
  have f1 := NX.frozen 1
  have f2 := NX.frozen 2
  have x0 := NX.cell 0 _ rfl
  have x1 := NX.cell 1 _ rfl
  have x2 := NX.cell 2 _ rfl
  replace NX := Lib.hid NX
  replace LX := Lib.hid LX
  go_enter Tryz.func19, Tryz.ntmps19
  go_wp2_with fail
  exact bodyPost_ret (v := .agg #[.bool false, .string s, .slice none 0 0]) (by simp [results, Tryz.results19, go_sem, k1, k2, k3]) rfl ⟨rfl, Q.out⟩

set_option maxRecDepth 100000 in
set_option maxHeartbeats 2000000 in
theorem refList_any (a : Option Addr) (n cap : Nat) (w : World) : Calls Tryz.prog 20 #[.slice a n cap] w fun e w' => e = .returned (.agg #[.bool true, .string ⟨#[]⟩, .slice a n cap]) ∧ Below w.heap.size w w' := by
  have LX := Has.new w 29 #[.bool true, .string ⟨#[]⟩, .slice a n cap]
  have Q := Lib.hid ((Below.refl w.heap.size w).alloc (Nat.le_refl _) (.cells #[.bool true, .string ⟨#[]⟩, .slice a n cap] 29))
  have k1 := LX.cell 0 _ rfl
  have k2 := LX.cell 1 _ rfl
  have k3 := LX.cell 2 _ rfl
  have NX := Has.new w 29 #[.bool false, .string ⟨#[]⟩, .slice none 0 0]
  have f0 := NX.frozen 0
  have f1 := NX.frozen 1
  have f2 := NX.frozen 2
  have x0 := NX.cell 0 _ rfl
  have x1 := NX.cell 1 _ rfl
  have x2 := NX.cell 2 _ rfl
  replace NX := Lib.hid NX
  replace LX := Lib.hid LX
  go_enter Tryz.func20, Tryz.ntmps20
  go_wp2_with fail
  exact bodyPost_ret (v := .agg #[.bool true, .string ⟨#[]⟩, .slice a n cap]) (by simp [results, Tryz.results20, go_sem, k1, k2, k3]) rfl ⟨rfl, Q.out⟩
end Go.Proofs.YtbbpmcebakckaaaGreatDoor
