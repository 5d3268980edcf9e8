import Derived.Test.YtbbpmcebakckaaaGreatDoorU12
import Derived.Test.YtbbpmcebakckaaaGreatDoorU11
import Derived.Test.YtbbpmcebakckaaaGreatDoorU01
import Derived.Deep.AppendSrc
import Derived.Laws.AppendOwn
/- The reader: items, one behind the other. Conditions: the reader lies in memory; places are in reach; the contract of one item. -/
namespace Go.Proofs.YtbbpmcebakckaaaGreatDoor
open Go Go.RowKit
attribute [local go_sem] Oper.semAt_some Grows wide_fn

/-- A reader's block is turned, and nothing else that was there. -/
def SR (R : Nat) (A X : World) : Prop := A.grownBy X (some R) ∧ ∃ cs, Has A R 100 cs
theorem SR.keeps (R : Nat) (A X : World) (h : SR R A X) (b : Nat) (o : Obj) (ho : A.heap[b]? = some o) (hc : o.isCells = false) : X.heap[b]? = some o := by
  refine (h.1.block b (Array.getElem?_eq_some_iff.1 ho).1 (fun e => ?_)).trans ho
  injection e with e
  subst e
  obtain ⟨cs, h2⟩ := h.2
  rw [show A.heap[b]? = _ from h2] at ho
  cases ho
  cases hc
theorem Has.sr {A X : World} {R B : Nat} {t : TypeId} {cs : Array Value} (h : Has A B t cs) (hg : A.grownBy X (some R)) (hne : B ≠ R) : Has X B t cs := (hg.block B h.lt (fun e => hne (by injection e))).trans h

/-- The items from a place on. -/
abbrev rdI (s : ByteArray) (d e a m : Nat) : Rd It := rdItem 5000 s.data.toList d e a m
/-- The contract of one item, where so many may be one within the other. -/
def ItemOK (s : ByteArray) (R d : Nat) : Prop := ∀ (e a m : Nat) (W : World), Has W R 100 (rdC s a m) → e ≤ s.size → a ≤ 1099511627776 → m ≤ 5000 →
  Calls Tryz.prog 56 #[.pointer (some ⟨R, 0, none⟩), .int .i64 (e : Int), .int .i64 ((16 - d : Nat) : Int)] W (ItP s R W (rdI s d e a m))

/-- What round k is handed: the item that is read there, or the error. -/
def ER (s : ByteArray) (d e a0 m0 k : Nat) (args : Array Value) (A W : World) : Prop :=
  ∀ acc a m, runK (rdI s d e) a0 m0 k = .ok acc a m → match rdI s d e a m with
    | .ok t _ _ => ∃ v, args = #[v, .nilIface] ∧ ItemS W (fun b => A.heap.size ≤ b) t v
    | .no x p => args = #[.agg #[.bool false, .string ⟨#[]⟩, .slice none 0 0], fltV x p]
/-- What the reading leaves. -/
def FinR (s : ByteArray) (R d e a0 m0 N : Nat) (W : World) : Prop := ∀ acc a m, runK (rdI s d e) a0 m0 N = .ok acc a m → Has W R 100 (rdC s a m)

def atOf (R : Nat) (W : World) : Nat := match W.cell? ⟨R, 1, none⟩ with
  | some (.int _ x) => x.toNat
  | _ => 0
theorem atOf_has {s : ByteArray} {R a m : Nat} {W : World} (h : Has W R 100 (rdC s a m)) : atOf R W = a := by
  unfold atOf
  rw [h.cell 1 (.int .i64 (a : Int)) rfl]
  simp

theorem grown_after {A X W : World} {row : Option Nat} (h : Below A.heap.size A X) (g : X.grownBy W row) : A.grownBy W row :=
  ⟨g.os.trans h.os, g.tape.trans h.tape, g.output.trans h.output, Nat.le_trans h.size g.size, fun k hk hne => (g.block k (Nat.lt_of_lt_of_le hk h.size) hne).trans (h.block k hk)⟩
theorem runK_det {rd : Nat → Nat → Rd It} {a0 m0 k a m a' m' : Nat} {acc acc' : List It} (h : runK rd a0 m0 k = .ok acc a m) (h' : runK rd a0 m0 k = .ok acc' a' m') : acc = acc' ∧ a = a' ∧ m = m' := by
  rw [h] at h'
  injection h' with h1 h2 h3
  exact ⟨h1, h2, h3⟩
theorem Has.keepsAt {A X : World} {L : List Nat} {B : Nat} {t : TypeId} {cs : Array Value} (h : Has A B t cs) (hk : KeepsAt L A X) (hB : B ∈ L) : Has X B t cs := (hk B hB).trans h

theorem items_any (R e d : Nat) (w : World) : Calls Tryz.prog 87 #[.pointer (some ⟨R, 0, none⟩), .int .i64 (e : Int), .int .i64 (d : Int)] w fun x w' =>
    x = .returned (.func (.func 95) #[] #[.pointer (some ⟨w.heap.size, 0, none⟩), .pointer (some ⟨w.heap.size + 1, 0, none⟩), .pointer (some ⟨w.heap.size + 1 + 1, 0, none⟩)]) ∧
    ((w.alloc (.cells #[.pointer (some ⟨R, 0, none⟩)] 130)).alloc (.cells #[.int .i64 (e : Int)] 3)).alloc (.cells #[.int .i64 (d : Int)] 3) = w' := by
  go_enter Tryz.func87, Tryz.ntmps87
  go_wp2_with fail
  go_ret
  exact ⟨rfl, rfl⟩

/-- What an iterator with an end comes to. -/
def SeqQ (N : Nat) (J Jx : Nat → World → Prop) (Fin : World → Prop) (e : Ending) (W' : World) : Prop := (∃ v, e = .returned v) ∧ ((J N W' ∧ Fin W') ∨ ∃ k, k < N ∧ Jx k W')
/-- What the iterator's loop holds. -/
def ItsSt (s : ByteArray) (R B1 B2 B3 d e a0 m0 N : Nat) (J : Nat → World → Prop) (wr : World) : Prop :=
  ∃ k acc a m, (runK (rdI s d e) a0 m0 k = .ok acc a m ∧ k ≤ N ∧ a ≤ 1099511627776 ∧ m ≤ 5000) ∧ J k wr ∧ Has wr R 100 (rdC s a m) ∧ Has wr B1 130 #[.pointer (some ⟨R, 0, none⟩)] ∧ Has wr B2 3 #[.int .i64 (e : Int)] ∧ Has wr B3 3 #[.int .i64 ((16 - d : Nat) : Int)]

set_option maxRecDepth 100000 in
set_option maxHeartbeats 4000000 in
theorem items_seq (n : Nat) (s : ByteArray) (R B1 B2 B3 d e a0 m0 N : Nat) (w : World) (IH : ItemOK s R d) (hs : s.size ≤ 1099511627776) (he : e ≤ s.size) (ha0 : a0 ≤ e) (hm0 : m0 ≤ 5000)
    (hN1 : ∀ j, j < N → ∃ acc a m, runK (rdI s d e) a0 m0 j = .ok acc a m ∧ a < e) (hN2 : ∀ acc a m, runK (rdI s d e) a0 m0 N = .ok acc a m → e ≤ a)
    (hR : Has w R 100 (rdC s a0 m0)) (h1 : Has w B1 130 #[.pointer (some ⟨R, 0, none⟩)]) (h2 : Has w B2 3 #[.int .i64 (e : Int)]) (h3 : Has w B3 3 #[.int .i64 ((16 - d : Nat) : Int)]) :
    SeqD Fence.wide n Tryz.prog 95 #[.pointer (some ⟨B1, 0, none⟩), .pointer (some ⟨B2, 0, none⟩), .pointer (some ⟨B3, 0, none⟩)] (ER s d e a0 m0) (KeepsAt [R, B1, B2, B3]) (SR R) (FinR s R d e a0 m0 N) N w := by
  intro ll J Jx W hW hJA hJxA hY h0
  have hmx : Tryz.prog.follows .mixedOrders = true := by kernel_rfl
  have HJ := Lib.hid (And.intro hJA hJxA)
  have HY := Lib.hid (fun k args A W1 hk hJ hS hE => yieldAt_any (m := 7) (hY k args A W1 hk hJ hS hE))
  have HI := Lib.hid IH
  have HN := Lib.hid (And.intro hN1 hN2)
  have HB := Lib.hid (And.intro hs he)
  have hne1 := Lib.hid (show B1 ≠ R ∧ B2 ≠ R ∧ B3 ≠ R from ⟨h1.ne hR (by decide), h2.ne hR (by decide), h3.ne hR (by decide)⟩)
  have hst0 := Lib.hid (show ItsSt s R B1 B2 B3 d e a0 m0 N J W from ⟨0, [], a0, m0, ⟨rfl, Nat.zero_le _, by omega, hm0⟩, h0, hR.below hW hR.lt, h1.below hW h1.lt, h2.below hW h2.lt, h3.below hW h3.lt⟩)
  clear hY hJA hJxA h0 IH hN1 hN2 hs he ha0 hm0 hR h1 h2 h3 hW
  show CallsIn _ _ _ _ _ _ (SeqQ N J Jx (FinR s R d e a0 m0 N))
  have hfin := Lib.hid (show ∀ (X : World) k, k < N → Jx k X → SeqQ N J Jx (FinR s R d e a0 m0 N) (.returned (.tuple #[])) X from fun X k h1 h2 => ⟨⟨_, rfl⟩, .inr ⟨k, h1, h2⟩⟩)
  have hend := Lib.hid (show ∀ (X : World), J N X → FinR s R d e a0 m0 N X → SeqQ N J Jx (FinR s R d e a0 m0 N) (.returned (.tuple #[])) X from fun X h1 h2 => ⟨⟨_, rfl⟩, .inl ⟨h1, h2⟩⟩)
  refine callsIn_free free_wide ((callsIn_wide (n := 8)).1 ?_)
  refine callsIn_of_wp Tryz.func95 rfl trivial ?_ rfl
  simp only [Tryz.ntmps95, List.size_toArray, List.length_cons, List.length_nil, Nat.reduceAdd, Nat.reduceSub, Array.replicate_succ, Array.replicate_zero, List.push_toArray, List.append_toArray, List.nil_append, List.cons_append]
  gi_wp2_with fail
  gi_loopw [6] (fun _ wr => ItsSt s R B1 B2 B3 d e a0 m0 N J wr) (fun _ wr => e - atOf R wr)
  case atStart => exact hst0.out
  case round =>
    clear hst0
    obtain ⟨k, acc, a, m, ⟨hrun, hkN, haB, hmB⟩, hJ, hR, h1, h2, h3⟩ := hrel
    have hat := Lib.hid (atOf_has hR)
    have d1 : ∀ X : Ext wr, X.w.cell? ⟨R, 1, none⟩ = some (.int .i64 (a : Int)) := fun X => hR.ext X 1 _ rfl
    have b1 : ∀ X : Ext wr, X.w.cell? ⟨B1, 0, none⟩ = some (.pointer (some ⟨R, 0, none⟩)) := fun X => h1.ext X 0 _ rfl
    have b2 : ∀ X : Ext wr, X.w.cell? ⟨B2, 0, none⟩ = some (.int .i64 (e : Int)) := fun X => h2.ext X 0 _ rfl
    have haI0 : (0 : Int) ≤ (a : Int) := by omega
    by_cases hae : a < e
    · have hk5 : k < N := by
        rcases Nat.lt_or_ge k N with h | h
        · exact h
        · obtain rfl : k = N := by omega
          have := HN.out.2 acc a m hrun
          omega
      have haI : decide (a < e) = true := decide_eq_true hae
      have hrunH := Lib.hid hrun
      have hJH := Lib.hid hJ
      have hRH := Lib.hid hR
      have h1H := Lib.hid h1
      have h2H := Lib.hid h2
      have h3H := Lib.hid h3
      clear hrun hJ hR h1 h2 h3
      gi_wp2_with fail
      refine wpIn_region_quietF (C := Grows wr) free_wide hmx (by kernel_rfl) (by kernel_rfl) (grows_refl wr) ?_
      repeat (go_big_quiet_step (fail))
      refine wpQuiet_nil ?_
      rintro _ ⟨X, rfl⟩
      have HC := Lib.hid (HI.out e a m X.w (hRH.out.later X.below) HB.out.2 haB hmB)
      have x1 := (h1H.out.later X.below).cell 0 (.pointer (some ⟨R, 0, none⟩)) rfl
      have x2 := (h2H.out.later X.below).cell 0 (.int .i64 (e : Int)) rfl
      have x3 := (h3H.out.later X.below).cell 0 (.int .i64 ((16 - d : Nat) : Int)) rfl
      clear d1 b1 b2
      gi_wp2_with fail
      obtain ⟨r, hr⟩ : ∃ r, rdI s d e a m = r := ⟨_, rfl⟩
      have hgood := Lib.hid (show ∀ t a' m', r = .ok t a' m' → a < a' ∧ a' ≤ e ∧ m' ≤ 5000 from fun t a' m' h => by
        have := rdItem_ok 5000 s.data.toList d e a m t a' m' (by rw [← size_list]; exact HB.out.2) (hr.trans h)
        exact ⟨this.1, this.2.1, this.2.2.2.2.1⟩)
      rw [hr] at HC
      replace hr := Lib.hid hr
      refine (callsIn_free free_wide HC.out).mono ?_
      rintro e2 W2 hP
      cases r with
      | ok t a' m' =>
        obtain ⟨v, rfl, hv, hR2, hg2⟩ := hP
        obtain ⟨ga, ga2, gm⟩ := hgood.out _ _ _ rfl
        obtain ⟨ta, tcap, rfl, _, _, _⟩ := hv.open
        have NX := Has.new W2 29 #[.bool false, .string ⟨#[]⟩, .slice none 0 0]
        have y0 := NX.cell 0 _ rfl
        have y1 := NX.cell 1 _ rfl
        have y2 := NX.cell 2 _ rfl
        have z0 := NX.frozen 0
        have z1 := NX.frozen 1
        have z2 := NX.frozen 2
        replace NX := Lib.hid NX
        have q3 := (Below.refl W2.heap.size W2).alloc (Nat.le_refl _) (.cells #[.bool t.list, .string t.bytes, .slice ta t.kids.length tcap] 29)
        have hS3 : SR R wr (W2.alloc (.cells #[.bool t.list, .string t.bytes, .slice ta t.kids.length tcap] 29)) := ⟨grown_then_below (grown_after X.below hg2) q3, _, hRH.out⟩
        have hE3 : ER s d e a0 m0 k #[.agg #[.bool t.list, .string t.bytes, .slice ta t.kids.length tcap], .nilIface] wr (W2.alloc (.cells #[.bool t.list, .string t.bytes, .slice ta t.kids.length tcap] 29)) := fun acc2 a2 m2 h2 => by
          obtain ⟨_, e2, e3⟩ := runK_det hrunH.out h2
          subst e2 e3
          rw [hr.out]
          exact ⟨_, rfl, (hv.mono (fun b hb _ => Nat.le_trans X.below.size hb)).later q3⟩
        obtain ⟨fn, tmps, assign, body, hy, hRd⟩ := HY.out k _ wr _ hk5 hJH.out hS3 hE3
        have hRn := Lib.hid (hR2.later q3)
        have h1n := Lib.hid (((h1H.out.later X.below).sr hg2 hne1.out.1).later q3)
        have h2n := Lib.hid (((h2H.out.later X.below).sr hg2 hne1.out.2.1).later q3)
        have h3n := Lib.hid (((h3H.out.later X.below).sr hg2 hne1.out.2.2).later q3)
        have hrun2 := Lib.hid (runK_ok hrunH.out hr.out)
        have hga := Lib.hid (And.intro ga (And.intro ga2 gm))
        clear x1 x2 x3 HC hg2 hR2 hv hS3 hE3 q3 ga ga2 gm h1H h2H h3H hRH hJH
        generalize t.list = tl at *
        generalize t.bytes = tb at *
        generalize t.kids.length = tn at *
        gi_wp2_with fail
        refine (roundIn_any hRd).mono ?_
        rintro e3 W4 (⟨rfl, hJ4, hk4⟩ | ⟨rfl, hJx4⟩)
        · have hR4 := Lib.hid (hRn.out.keepsAt hk4 (by simp))
          have h14 := Lib.hid (h1n.out.keepsAt hk4 (by simp))
          have h24 := Lib.hid (h2n.out.keepsAt hk4 (by simp))
          have h34 := Lib.hid (h3n.out.keepsAt hk4 (by simp))
          replace hJ4 := Lib.hid hJ4
          clear hy hRd hk4 y0 y1 y2 z0 z1 z2 NX
          gi_wp2_with fail
          go_roundw
          case rel => exact ⟨k + 1, _, a', m', ⟨hrun2.out, hk5, by have := hga.out; have := HB.out; omega, hga.out.2.2⟩, hJ4.out, hR4.out, h14.out, h24.out, h34.out⟩
          case measure =>
            rw [atOf_has hR4.out, hat.out]
            have := hga.out
            omega
        · have hE := Lib.hid (hfin.out _ _ hk5 hJx4)
          clear hy hRd y0 y1 y2 z0 z1 z2 NX hJx4
          gi_wp2_with fail
          refine bodyPost_ret (results_none rfl _ _ _) rfl ?_
          exact hE.out
      | no x p =>
        obtain ⟨rfl, hg2⟩ := hP
        have NX := Has.new W2 29 #[.bool false, .string ⟨#[]⟩, .slice none 0 0]
        have y0 := NX.cell 0 _ rfl
        have y1 := NX.cell 1 _ rfl
        have y2 := NX.cell 2 _ rfl
        have z0 := NX.frozen 0
        have z1 := NX.frozen 1
        have z2 := NX.frozen 2
        replace NX := Lib.hid NX
        have q3 := (Below.refl W2.heap.size W2).alloc (Nat.le_refl _) (.cells #[.bool false, .string ⟨#[]⟩, .slice none 0 0] 29)
        have hS3 : SR R wr (W2.alloc (.cells #[.bool false, .string ⟨#[]⟩, .slice none 0 0] 29)) := ⟨grown_then_below (grown_after X.below hg2) q3, _, hRH.out⟩
        have hE3 : ER s d e a0 m0 k #[.agg #[.bool false, .string ⟨#[]⟩, .slice none 0 0], fltV x p] wr (W2.alloc (.cells #[.bool false, .string ⟨#[]⟩, .slice none 0 0] 29)) := fun acc2 a2 m2 h2 => by
          obtain ⟨_, e2, e3⟩ := runK_det hrunH.out h2
          subst e2 e3
          rw [hr.out]
        obtain ⟨fn, tmps, assign, body, hy, hRd⟩ := HY.out k _ wr _ hk5 hJH.out hS3 hE3
        have hrun2 := runK_no hrunH.out hr.out
        have hN3 : k + 1 = N := by
          rcases Nat.lt_or_ge (k + 1) N with h | h
          · obtain ⟨acc2, a2, m2, h2, _⟩ := HN.out.1 (k + 1) h
            rw [hrun2] at h2; cases h2
          · omega
        have hFN := Lib.hid (show FinR s R d e a0 m0 N = FinR s R d e a0 m0 N ∧ ∀ Y, FinR s R d e a0 m0 N Y from ⟨rfl, fun Y acc2 a2 m2 h2 => by rw [← hN3, hrun2] at h2; cases h2⟩)
        replace hN3 := Lib.hid hN3
        clear x1 x2 x3 HC hg2 hS3 hE3 q3 h1H h2H h3H hRH hJH hrun2
        gi_wp2_with fail
        refine (roundIn_any hRd).mono ?_
        rintro e3 W4 (⟨rfl, hJ4, hk4⟩ | ⟨rfl, hJx4⟩)
        · rw [hN3.out] at hJ4
          have hE := Lib.hid (hend.out _ hJ4 (hFN.out.2 _))
          clear hy hRd hk4 y0 y1 y2 z0 z1 z2 NX hJ4
          gi_wp2_with fail
          refine bodyPost_ret (results_none rfl _ _ _) rfl ?_
          exact hE.out
        · have hE := Lib.hid (hfin.out _ _ hk5 hJx4)
          clear hy hRd y0 y1 y2 z0 z1 z2 NX hJx4
          gi_wp2_with fail
          refine bodyPost_ret (results_none rfl _ _ _) rfl ?_
          exact hE.out
    · have hkN2 : k = N := by
        rcases Nat.lt_or_ge k N with h | h
        · obtain ⟨acc2, a2, m2, h2, h3⟩ := HN.out.1 k h
          have := (runK_det hrun h2).2.1
          omega
        · omega
      subst hkN2
      have haI : decide (a < e) = false := by simpa using hae
      have hE := Lib.hid (fun Y (hb : Below wr.heap.size wr Y) => hend.out Y)
      have hJH := Lib.hid hJ
      have hFF := Lib.hid (show FinR s R d e a0 m0 k wr from fun acc2 a2 m2 h2 => by
        obtain ⟨_, e2, e3⟩ := runK_det hrun h2
        subst e2 e3
        exact hR)
      have hRH := Lib.hid hR
      have hrunH := Lib.hid hrun
      clear hJ hR h1 h2 h3 hrun
      gi_wp2_with fail
      refine wpIn_region_quietF (C := Grows wr) free_wide hmx (by kernel_rfl) (by kernel_rfl) (grows_refl wr) ?_
      repeat (go_big_quiet_step (fail))
      refine wpQuiet_nil ?_
      rintro _ ⟨X, rfl⟩
      have hE := Lib.hid (hend.out X.w (HJ.out.1 _ _ _ hJH.out ⟨grown_of_below X.below _, _, hRH.out⟩) (fun acc2 a2 m2 h2 => (hFF.out acc2 a2 m2 h2).later X.below))
      clear d1 b1 b2
      gi_wp2_with fail
      first | go_end0 | skip
      exact hE.out
end Go.Proofs.YtbbpmcebakckaaaGreatDoor

/- size and held: how many bytes an item has. Conditions: the item lies in memory, is right, and has no more than 2^61 bytes. -/
namespace Go.Proofs.YtbbpmcebakckaaaGreatDoor
open Go Go.RowKit
attribute [local go_sem] Oper.semAt_some Grows wide_fn

/-- What an item holds. -/
def heldB (t : It) : List UInt8 := t.bytes.data.toList ++ encL t.kids
theorem enc_held {d : Nat} {t : It} (h : RightI d t) : encI t = headI t (heldB t).length ++ heldB t := by
  obtain ⟨l, b, ks⟩ := t
  cases d with
  | zero => exact h.elim
  | succ d =>
    obtain ⟨h1, h2, _⟩ := h
    cases l with
    | true =>
      have hb : b = ⟨#[]⟩ := h1 rfl
      subst hb
      rw [encI_list]
      rfl
    | false =>
      have hk : ks = [] := List.length_eq_zero_iff.1 (h2 rfl)
      subst hk
      have he : heldB (.mk false b []) = b.data.toList := by simp [heldB, It.bytes, It.kids, encL]
      rw [he]
      rcases hbb : bareB b.data.toList with _ | _
      · rw [encI_text b hbb]; simp [headI, It.list, It.bytes, hbb]
      · rw [encI_bare b hbb]; simp [headI, It.list, It.bytes, hbb]
theorem encL_take : ∀ (ks : List It) (k : Nat) (x : It), ks[k]? = some x → encL (ks.take (k + 1)) = encL (ks.take k) ++ encI x
  | [], k, x, h => by simp at h
  | y :: ks, 0, x, h => by
    simp at h
    subst h
    simp [encL]
  | y :: ks, k + 1, x, h => by
    have h' : ks[k]? = some x := by simpa using h
    have := encL_take ks k x h'
    simp only [List.take_succ_cons, encL] at this ⊢
    rw [this, List.append_assoc]
theorem encL_part : ∀ (ks : List It) (k : Nat), (encL (ks.take k)).length ≤ (encL ks).length
  | [], k => by simp [encL]
  | y :: ks, 0 => by simp [encL]
  | y :: ks, k + 1 => by
    have := encL_part ks k
    simp only [List.take_succ_cons, encL, List.length_append] at this ⊢
    omega

/-- What an iterator comes to. -/
def SeqP (N : Nat) (J Jx : Nat → World → Prop) (e : Ending) (W' : World) : Prop := (∃ v, e = .returned v) ∧ (J N W' ∨ ∃ k, k < N ∧ Jx k W')
/-- What round k of a range over kids may be handed. -/
def EK (w0 : World) (ks : List It) (k : Nat) (args : Array Value) (_ : World) : Prop := ∃ x v, ks[k]? = some x ∧ args = #[.int .i64 ((k : Nat) : Int), v] ∧ ItemAt w0 x v

set_option maxRecDepth 100000 in
set_option maxHeartbeats 4000000 in
theorem kids_seq (n : Nat) (ks : List It) (a : Option Addr) (cap Bx : Nat) (w0 w : World) (hk : KidsIn w0 ks a) (hn : ks.length ≤ 1099511627776) (hB : Below w0.heap.size w0 w) (hX : Has w Bx 27 #[.slice a ks.length cap]) :
    SeqC Fence.wide n Tryz.prog 82 #[.pointer (some ⟨Bx, 0, none⟩)] (EK w0 ks) (Kd w0.heap.size) Gr ks.length w := by
  intro ll J Jx W hW hJA hJxA hY h0
  have hlt := hX.lt
  have LX := hX.below hW hlt
  have c0 := LX.cell 0 _ rfl
  have HJ := Lib.hid (And.intro hJA hJxA)
  have HY := Lib.hid (fun k args W1 hk hJ hE => yieldAt_any (m := 7) (hY k args W1 hk hJ hE))
  have HK := Lib.hid hk
  have hW0 := Lib.hid (hB.trans (hW.mono hB.size))
  have h0' := Lib.hid h0
  clear hY hJA hJxA h0 hk hB hX hlt hW LX
  obtain ⟨m, en⟩ : ∃ m, ks.length = m := ⟨_, rfl⟩
  rw [en] at hn c0 ⊢
  replace en := Lib.hid en
  have hfin := Lib.hid (show ∀ (X : World) k, k < m → Jx k X → SeqP m J Jx (.returned (.tuple #[])) X from fun X k h1 h2 => ⟨⟨_, rfl⟩, .inr ⟨k, h1, h2⟩⟩)
  show CallsIn _ _ _ _ _ _ (SeqP m J Jx)
  refine callsIn_free free_wide ((callsIn_wide (n := 8)).1 ?_)
  refine callsIn_of_wp Tryz.func82 rfl trivial ?_ rfl
  simp only [Tryz.ntmps82, List.size_toArray, List.length_cons, List.length_nil, Nat.reduceAdd, Nat.reduceSub, Array.replicate_succ, Array.replicate_zero, List.push_toArray, List.append_toArray, List.nil_append, List.cons_append]
  gi_wp2_with fail
  gi_loopw [7] (fun i wr => ∃ k : Nat, k ≤ m ∧ i = .int .i64 (k : Int) ∧ J k wr ∧ Kd w0.heap.size W wr) (fun i _ => m - (intOf i).toNat)
  case atStart => exact ⟨0, by omega, rfl, h0'.out, Kd.refl _ _⟩
  case round =>
    clear h0'
    obtain ⟨k, hkn, rfl, hJ, kd⟩ := hrel
    by_cases hk5 : k < m
    · have hkI : (k : Int) < (m : Int) := by omega
      have hk0 : (0 : Int) ≤ (k : Int) := by omega
      obtain ⟨g, o, rfl, hK⟩ := HK.out.resolve_left (fun h => by have h2 := en.out; rw [h] at h2; simp at h2; omega)
      obtain ⟨kx, hkx⟩ : ∃ kx, ks[k]? = some kx := ⟨_, List.getElem?_eq_getElem (by have := en.out; omega)⟩
      obtain ⟨l1, b1, a1, n1, cap1, e0, e1, e2, hi⟩ := hK.get3 k _ hkx
      have hB := hW0.out.trans kd.1
      replace e0 := (hB.cell (p := ⟨g, _, none⟩) (ltCell e0)).trans e0
      replace e1 := (hB.cell (p := ⟨g, _, none⟩) (ltCell e1)).trans e1
      replace e2 := (hB.cell (p := ⟨g, _, none⟩) (ltCell e2)).trans e2
      have NX := Has.new wr 29 #[.bool false, .string ⟨#[]⟩, .slice none 0 0]
      have x0 := NX.cell 0 _ rfl
      have x1 := NX.cell 1 _ rfl
      have x2 := NX.cell 2 _ rfl
      have f0 := NX.frozen 0
      have f1 := NX.frozen 1
      have f2 := NX.frozen 2
      replace NX := Lib.hid NX
      have q := (Below.refl wr.heap.size wr).alloc (Nat.le_refl _) (.cells #[.bool l1, .string b1, .slice a1 n1 cap1] 29)
      obtain ⟨fn, tmps, assign, body, hy, hR⟩ := HY.out k #[.int .i64 (k : Int), .agg #[.bool l1, .string b1, .slice a1 n1 cap1]] (wr.alloc (.cells #[.bool l1, .string b1, .slice a1 n1 cap1] 29)) (by have := en.out; omega) (HJ.out.1 _ _ _ hJ q) ⟨kx, _, hkx, rfl, hi⟩
      have kdA := Lib.hid (kd.trans (Kd.grow q hB.size))
      have lg := ltCell e0
      clear hB hi hK HK hJ kd q HJ hkx
      gi_wp2_with fail
      refine (roundIn_any hR).mono ?_
      rintro e W3 (⟨rfl, hJ3, hk3⟩ | ⟨rfl, hJx3⟩)
      · have kd3 := Lib.hid (kdA.out.trans hk3)
        replace hJ3 := Lib.hid hJ3
        clear hk3 kdA x0 x1 x2 f0 f1 f2 e0 e1 e2 NX lg hR hy
        gi_wp2_with fail
        go_roundw
        case rel => exact ⟨k + 1, by omega, by simp, hJ3.out, kd3.out⟩
        case measure => simp [intOf]; omega
      · have hE := Lib.hid (hfin.out _ _ hk5 hJx3)
        clear kdA x0 x1 x2 f0 f1 f2 e0 e1 e2 NX lg hJx3 hR hy
        gi_wp2_with fail
        refine bodyPost_ret (results_none rfl _ _ _) rfl ?_
        exact hE.out
    · obtain rfl : k = m := by omega
      have hE := Lib.hid (show SeqP k J Jx (.returned (.tuple #[])) wr from ⟨⟨_, rfl⟩, .inl hJ⟩)
      clear hJ kd
      gi_wp2_with fail
      first | go_end0 | skip
      exact hE.out

theorem slAll_any (a : Option Addr) (n cap : Nat) (w : World) : Calls Tryz.prog 67 #[.slice a n cap] w fun e w' => e = .returned (.func (.func 82) #[] #[.pointer (some ⟨w.heap.size, 0, none⟩)]) ∧ w.alloc (.cells #[.slice a n cap] 27) = w' := by
  go_enter Tryz.func67, Tryz.ntmps67
  go_wp2_with fail
  go_ret
  exact ⟨rfl, rfl⟩

def SizeAt (t : It) : Prop := ∀ (v : Value) (w : World), ItemAt w t v → Calls Tryz.prog 27 #[v] w fun e w' => e = .returned (.int .i64 (((encI t).length : Nat) : Int)) ∧ Below w.heap.size w w'

set_option maxRecDepth 100000 in
set_option maxHeartbeats 2000000 in
theorem held1_any (t : It) (HS : SizeAt t) (n : Nat) (hb : n + (encI t).length ≤ 2305843009213693952) (v : Value) (w : World) (ht : ItemAt w t v) :
    Calls Tryz.prog 68 #[.int .i64 (n : Int), v] w fun e w' => e = .returned (.int .i64 (((n + (encI t).length : Nat)) : Int)) ∧ Below w.heap.size w w' := by
  obtain ⟨a, cap, rfl, _, _, _⟩ := ht.open
  have q := (Below.refl w.heap.size w).alloc (Nat.le_refl _) (.cells #[.bool t.list, .string t.bytes, .slice a t.kids.length cap] 29)
  have HC := Lib.hid (HS _ _ (ht.later q))
  have LX := Has.new w 29 #[.bool t.list, .string t.bytes, .slice a t.kids.length cap]
  have c0 := LX.cell 0 _ rfl
  have c1 := LX.cell 1 _ rfl
  have c2 := LX.cell 2 _ rfl
  replace LX := Lib.hid LX
  replace q := Lib.hid q
  have hcast := Lib.hid (Int.natCast_add n (encI t).length)
  have hbI : (n : Int) + ((encI t).length : Int) ≤ 2305843009213693952 := by omega
  generalize (encI t).length = L at *
  have h0 : (0 : Int) ≤ (n : Int) := by omega
  have h1 : (0 : Int) ≤ (L : Int) := by omega
  clear ht HS hb
  go_enter Tryz.func68, Tryz.ntmps68
  go_wp2_with fail
  refine HC.out.mono ?_
  rintro _ W2 ⟨rfl, q2⟩
  replace q := Lib.hid (q.out.trans (q2.mono q.out.size))
  clear HC c0 c1 c2 q2 LX
  go_wp2_with fail
  go_ret
  exact ⟨by rw [hcast.out]; rfl, q.out⟩

/-- What the sum holds. -/
def SumSt (w : World) (f s0 : Nat) (ks : List It) (Bs Bf k : Nat) (W : World) : Prop :=
  (Has W Bs 3 #[.int .i64 (((s0 + (encL (ks.take k)).length : Nat)) : Int)] ∧ Has W Bf 121 #[.func (.func f) #[] #[]]) ∧ Below w.heap.size w W
theorem SumSt.later {w : World} {f s0 : Nat} {ks : List It} {Bs Bf k : Nat} {A X : World} (h : SumSt w f s0 ks Bs Bf k A) (hb : Below A.heap.size A X) : SumSt w f s0 ks Bs Bf k X :=
  ⟨⟨h.1.1.later hb, h.1.2.later hb⟩, h.2.trans (hb.mono h.2.size)⟩
theorem SumSt.own {w : World} {f s0 : Nat} {ks : List It} {Bs Bf n : Nat} (hn : w.heap.size ≤ n) : OwnFrom n (fun k W => SumSt w f s0 ks Bs Bf k W) := fun k A X row hs hg hr =>
  ⟨⟨hs.1.1.own' hg (fun r e => (hr r e).2), hs.1.2.own' hg (fun r e => (hr r e).2)⟩, below_own hs.2 hg hn (fun r e => (hr r e).1)⟩

set_option maxRecDepth 100000 in
set_option maxHeartbeats 4000000 in
theorem gatherInt_any (ks : List It) (HS : ∀ k ∈ ks, SizeAt k) (s0 : Nat) (hb : s0 + (encL ks).length ≤ 2305843009213693952) (a : Option Addr) (cap Bx : Nat) (w0 w : World) (hB : Below w0.heap.size w0 w) (hk : KidsIn w0 ks a) (hn : ks.length ≤ 1099511627776) (hX : Has w Bx 27 #[.slice a ks.length cap]) :
    Calls Tryz.prog 66 #[.func (.func 82) #[] #[.pointer (some ⟨Bx, 0, none⟩)], .int .i64 (s0 : Int), .func (.func 68) #[] #[]] w fun e w' => e = .returned (.int .i64 (((s0 + (encL ks).length : Nat)) : Int)) ∧ Below w.heap.size w w' := by
  have hmx : Tryz.prog.follows .mixedOrders = true := by kernel_rfl
  have HSK := Lib.hid HS
  have HKK := Lib.hid hk
  have HBB := Lib.hid hB
  have hbH := Lib.hid hb
  have hnH := Lib.hid hn
  clear HS hk hb hn hB
  refine (callsIn_wide (n := 8)).1 ?_
  refine callsIn_of_wp_marks Tryz.func66 rfl trivial ?_ rfl
  simp only [Tryz.ntmps66, List.size_toArray, List.length_cons, List.length_nil, Nat.reduceAdd, Nat.reduceSub, Array.replicate_succ, Array.replicate_zero, List.push_toArray, List.append_toArray, List.nil_append, List.cons_append]
  have LS := (Has.new w 3 #[.int .i64 (s0 : Int)]).alloc (.cells #[.func (.func 68) #[] #[]] 121)
  have LF := Has.new (w.alloc (.cells #[.int .i64 (s0 : Int)] 3)) 121 #[.func (.func 68) #[] #[]]
  simp only [World.size_alloc] at LF
  have LX := (hX.alloc (.cells #[.int .i64 (s0 : Int)] 3)).alloc (.cells #[.func (.func 68) #[] #[]] 121)
  have Q := ((Below.refl w.heap.size w).alloc (Nat.le_refl _) (.cells #[.int .i64 (s0 : Int)] 3)).alloc (by simp) (.cells #[.func (.func 68) #[] #[]] 121)
  have hs2 : ((w.alloc (.cells #[.int .i64 (s0 : Int)] 3)).alloc (.cells #[.func (.func 68) #[] #[]] 121)).heap.size = w.heap.size + 2 := by simp
  replace LS := Lib.hid LS
  replace LF := Lib.hid LF
  replace LX := Lib.hid LX
  replace Q := Lib.hid Q
  replace hs2 := Lib.hid hs2
  clear hX
  gi_wp2_with fail
  generalize (w.alloc (.cells #[.int .i64 (s0 : Int)] 3)).alloc (.cells #[.func (.func 68) #[] #[]] 121) = W2 at *
  refine wpIn_rangeFunc_C rfl (by omega) (gf := 82) (lb := #[.pointer (some ⟨Bx, 0, none⟩)]) rfl trivial (enters_of Tryz.func82 (by kernel_rfl) rfl)
    (kids_seq _ ks a cap Bx w0 W2 HKK.out hnH.out (HBB.out.trans (Q.out.mono HBB.out.size)) LX.out) Gr.keeps Kd.trans (fun W l o o' hl h1 h2 _ => Kd.put W l o o' (by have := hs2.out; have := HBB.out.size; omega) h1 h2) (fun k args W _ hE => by obtain ⟨x, v', _, e, _⟩ := hE; rw [e]; rfl)
    (fun k W => SumSt w 68 s0 ks w.heap.size (w.heap.size + 1) k W) (fun _ _ _ => False) (SumSt.own (by have := hs2.out; omega)) (fun c k A X row hs hg hr => hs)
    (fun s V X hs hb => hs.later hb) (fun c s V X hs hb => hs) ⟨⟨by rw [show (encL (ks.take 0)).length = 0 by simp [encL]]; exact LS.out, LF.out⟩, Q.out⟩
    (fun k a' V => ∃ x l1 b1 a1 n1 cap1 bx, ks[k]? = some x ∧ ItemAt w0 x (.agg #[.bool l1, .string b1, .slice a1 n1 cap1]) ∧ Has V bx 29 #[.bool l1, .string b1, .slice a1 n1 cap1] ∧
      a' = { tmps := #[.func (.func 82) #[] #[.pointer (some ⟨Bx, 0, none⟩)], .int .i64 (s0 : Int), .func (.func 68) #[] #[], undef, .pointer (some ⟨w.heap.size, 0, none⟩), .pointer (some ⟨w.heap.size + 1, 0, none⟩), .int .i64 0, undef, .pointer (some ⟨bx, 0, none⟩), .func (.func 82) #[] #[.pointer (some ⟨Bx, 0, none⟩)], .int .i64 ((k : Nat) : Int), .agg #[.bool l1, .string b1, .slice a1 n1 cap1], undef, undef, undef, undef, undef], defers := [] })
    (fun k a' _ X Y row hs hg hr => by
      obtain ⟨x, l1, b1, a1, n1, cap1, bx, h1, h2, h3, e⟩ := hs
      exact ⟨x, l1, b1, a1, n1, cap1, bx, h1, h2, h3.own' hg (fun r e => (hr r e).2), e⟩) ?assign ?body ?done ?stop
  case assign =>
    intro ll k args W K hll hkN hst hE hK
    obtain ⟨x, v', h1, rfl, h3⟩ := hE
    obtain ⟨a1, cap1, rfl, _, _, _⟩ := h3.open
    have HST := Lib.hid hst
    have HK := Lib.hid hK
    have H3 := Lib.hid h3
    have H1 := Lib.hid h1
    clear hst hkN hK h3 h1
    have NX := Has.new W 29 #[.bool false, .string ⟨#[]⟩, .slice none 0 0]
    have x0 := NX.cell 0 _ rfl
    have x1 := NX.cell 1 _ rfl
    have x2 := NX.cell 2 _ rfl
    have f0 := NX.frozen 0
    have f1 := NX.frozen 1
    have f2 := NX.frozen 2
    replace NX := Lib.hid NX
    generalize x.list = l1 at *
    generalize x.bytes = b1 at *
    generalize x.kids.length = n1 at *
    gi_wp2_with fail
    have hg := (Below.refl W.heap.size W).alloc (Nat.le_refl _) (.cells #[.bool l1, .string b1, .slice a1 n1 cap1] 29)
    exact HK.out _ _ ((KeepsOthers.alloc _ _).from _) (Kd.grow hg (Nat.le_trans HBB.out.size HST.out.2.size)) (HST.out.later hg) ⟨x, l1, b1, a1, n1, cap1, W.heap.size, H1.out, H3.out, Has.new _ _ _, rfl⟩
  case body =>
    rintro ll k a' W hl hlo hkN hst ⟨x, l1, b1, a1, n1, cap1, bx, h1, h2, h3, rfl⟩
    have hm : x ∈ ks := List.mem_of_getElem? h1
    have htk := encL_take ks k x h1
    have hpt := encL_part ks (k + 1)
    rw [htk, List.length_append] at hpt
    have hbb := hbH.out
    have e0 := h3.cell 0 _ rfl
    have e1 := h3.cell 1 _ rfl
    have e2 := h3.cell 2 _ rfl
    have cS := hst.1.1.cell 0 _ rfl
    have cF := hst.1.2.cell 0 _ rfl
    have HC := Lib.hid (held1_any x (HSK.out x hm) (s0 + (encL (ks.take k)).length) (by omega) (.agg #[.bool l1, .string b1, .slice a1 n1 cap1]) W (h2.later (HBB.out.trans (hst.2.mono HBB.out.size))))
    have hnx := Lib.hid (show s0 + (encL (ks.take k)).length + (encI x).length = s0 + (encL (ks.take (k + 1))).length by rw [htk, List.length_append]; omega)
    have HST := Lib.hid hst
    generalize s0 + (encL (ks.take k)).length = S at *
    clear h1 h2 h3 hst hm htk hpt hbb hl hlo hkN
    gi_wp2_with fail
    refine (callsIn_free (free_round ll) HC.out).mono ?_
    rintro _ W3 ⟨rfl, q⟩
    rw [hnx.out]
    have LS3 := HST.out.1.1.later q
    have LF3 := HST.out.1.2.later q
    have Q3 := HST.out.2.trans (q.mono HST.out.2.size)
    have c3 := LS3.cell 0 _ rfl
    have f3 := LS3.frozen 0
    have KE := Lib.hid ((⟨q.size, fun k _ _ h _ => (q.block k (Array.getElem?_eq_some_iff.1 h).1).trans h⟩ : KeepsFrom W2.heap.size W W3).trans ((KeepsOthers.setCell W3 ⟨w.heap.size, 0, none⟩ (.int .i64 (((s0 + (encL (ks.take (k + 1))).length : Nat)) : Int))).from W2.heap.size))
    have KD := Lib.hid ((Kd.grow q (Nat.le_trans HBB.out.size HST.out.2.size)).trans (Kd.set (n := w0.heap.size) LS3 (by decide) HBB.out.size 0 (.int .i64 (((s0 + (encL (ks.take (k + 1))).length : Nat)) : Int))))
    have ST := Lib.hid (show SumSt w 68 s0 ks w.heap.size (w.heap.size + 1) (k + 1) (W3.setCell ⟨w.heap.size, 0, none⟩ (.int .i64 (((s0 + (encL (ks.take (k + 1))).length : Nat)) : Int))) from ⟨⟨LS3.set 0 _, LF3.other (by simp) _⟩, Q3.setCell (by simp) _⟩)
    clear q LS3 LF3 Q3 HC hnx HST e0 e1 e2 cS cF
    generalize s0 + (encL (ks.take (k + 1))).length = S2 at *
    gi_wp2_with fail
    exact ⟨KE.out, KD.out, ST.out⟩
  case done =>
    rintro D W hD hst hK
    have cS := hst.1.1.cell 0 _ rfl
    rw [show (encL (ks.take ks.length)).length = (encL ks).length by rw [List.take_length]] at cS
    have Q3 := Lib.hid (show Below w.heap.size w (W.putObj D (.deferred none)) from hst.2.trans ⟨rfl, rfl, rfl, by simp, fun k hk => World.putObj_heap_other (by have := hs2.out; omega)⟩)
    replace hK := Lib.hid hK
    clear hst
    obtain ⟨S, hS⟩ : ∃ S, s0 + (encL ks).length = S := ⟨_, rfl⟩
    rw [hS] at cS
    replace hS := Lib.hid hS
    gi_wp2_with fail
    refine ⟨by simp, .inl ⟨_, _, rfl, run_takeDeferred hK.out, ?_⟩⟩
    exact ⟨.int .i64 ((S : Nat) : Int), by simp [results, Tryz.results66, go_sem], by rw [hS.out], Q3.out⟩
  case stop =>
    rintro D c k W hD hk h hK
    exact h.elim

set_option maxRecDepth 100000 in
set_option maxHeartbeats 4000000 in
theorem held_any (t : It) (HS : ∀ k ∈ t.kids, SizeAt k) (hb : (heldB t).length ≤ 2305843009213693952) (v : Value) (w : World) (ht : ItemAt w t v) :
    Calls Tryz.prog 48 #[v] w fun e w' => e = .returned (.int .i64 (((heldB t).length : Nat) : Int)) ∧ Below w.heap.size w w' := by
  have hmx : Tryz.prog.follows .mixedOrders = true := by kernel_rfl
  obtain ⟨a, cap, rfl, hn, hs, hk⟩ := ht.open
  have hbs : t.bytes.data.toList.length = t.bytes.size := by simp
  have hL : (heldB t).length = t.bytes.size + (encL t.kids).length := by unfold heldB; rw [List.length_append, hbs]
  rw [hL] at hb ⊢
  have HG := Lib.hid (fun (W : World) (B : Nat) (hB : Below w.heap.size w W) (hX : Has W B 27 #[.slice a t.kids.length cap]) => gatherInt_any t.kids HS t.bytes.size hb a cap B w W hB hk hn hX)
  clear ht hk HS hL hbs
  have Q := (Below.refl w.heap.size w).alloc (Nat.le_refl _) (.cells #[.bool t.list, .string t.bytes, .slice a t.kids.length cap] 29)
  have LX := Has.new w 29 #[.bool t.list, .string t.bytes, .slice a t.kids.length cap]
  obtain ⟨S, hS⟩ : ∃ S, t.bytes.size + (encL t.kids).length = S := ⟨_, rfl⟩
  rw [hS] at HG hb ⊢
  clear hS
  generalize t.bytes = b at *
  generalize t.kids.length = n at *
  generalize t.list = l at *
  go_enter Tryz.func48, Tryz.ntmps48
  go_wp2_with fail
  obtain ⟨W1, hW1⟩ : ∃ W1, w.alloc (.cells #[.bool l, .string b, .slice a n cap] 29) = W1 := ⟨_, rfl⟩
  rw [hW1] at Q LX ⊢
  clear hW1
  refine wp_region_ghost [some (.pointer (some ⟨w.heap.size, 2, none⟩)), some (.slice a n cap), none, some (.pointer (some ⟨w.heap.size, 1, none⟩)), some (.string b), some (.int .i64 (b.size : Int)), some (.int .i64 (S : Int)), some (.int .i64 (S : Int))] [[], [0], [0, 1], [], [3], [3, 4], [0, 1, 2, 3, 4, 5], [0, 1, 2, 3, 4, 5, 6]]
    (fun f g' w' => (Below w.heap.size w w' ∧ Has w' w.heap.size 29 #[.bool l, .string b, .slice a n cap]) ∧ (f 2 = true → ∃ B, g' 2 = .func (.func 82) #[] #[.pointer (some ⟨B, 0, none⟩)] ∧ Has w' B 27 #[.slice a n cap]))
    (by kernel_rfl) (by kernel_rfl) (by kernel_rfl) ?_ ?_ ?_ ?_
  · rintro f g' wa wb ⟨⟨h1, h2⟩, h3⟩ hb
    exact ⟨⟨h1.trans (hb.mono h1.size), h2.later hb⟩, fun hf => by obtain ⟨B, e, h⟩ := h3 hf; exact ⟨B, e, h.later hb⟩⟩
  · intro f f' g1 g1' wa h
    have ha := h 2 rfl
    rw [ha.1, ha.2]
    exact id
  · exact ⟨⟨Q.drew, LX⟩, fun h => by cases h⟩
  rintro f g' y ⟨⟨h1, h2⟩, h3⟩ Dn
  clear Q LX
  have c0 := h2.cell 0 _ rfl
  have c1 := h2.cell 1 _ rfl
  have c2 := h2.cell 2 _ rfl
  replace hs := Lib.hid hs
  have hsz : b.size ≤ 9223372036854775807 := by have := hs.out; omega
  refine GW.known _ rfl (fun hd hf => ?_) ?_
  · go_wp2
    exact ⟨rfl, rfl, Below.refl _ _⟩
  simp only [Act.put, List.setIfInBounds_toArray, List.set_cons_succ, List.set_cons_zero]
  refine GW.known _ rfl (fun hd hf => ?_) ?_
  · go_wp2
    exact ⟨rfl, rfl, Below.refl _ _⟩
  simp only [Act.put, List.setIfInBounds_toArray, List.set_cons_succ, List.set_cons_zero]
  refine GW.open rfl (fun hd hf => ?_) ?_
  · go_wp2_with fail
    refine (slAll_any a n cap y).mono ?_
    rintro e u ⟨rfl, hu⟩
    have hq : Below y.heap.size y u := by rw [← hu]; exact (Below.refl _ _).alloc (Nat.le_refl _) _
    have hN : Has u y.heap.size 27 #[.slice a n cap] := by rw [← hu]; exact Has.new _ _ _
    clear h3
    go_wp2_with fail
    exact ⟨rfl, ⟨h1.trans (hq.mono h1.size), h2.later hq⟩, fun _ => ⟨y.heap.size, rfl, hN⟩⟩
  simp only [Act.put, List.setIfInBounds_toArray, List.set_cons_succ, List.set_cons_zero]
  refine GW.known _ rfl (fun hd hf => ?_) ?_
  · go_wp2
    exact ⟨rfl, rfl, Below.refl _ _⟩
  simp only [Act.put, List.setIfInBounds_toArray, List.set_cons_succ, List.set_cons_zero]
  refine GW.known _ rfl (fun hd hf => ?_) ?_
  · go_wp2
    exact ⟨rfl, rfl, Below.refl _ _⟩
  simp only [Act.put, List.setIfInBounds_toArray, List.set_cons_succ, List.set_cons_zero]
  refine GW.known _ rfl (fun hd hf => ?_) ?_
  · go_wp2
    exact ⟨rfl, rfl, Below.refl _ _⟩
  simp only [Act.put, List.setIfInBounds_toArray, List.set_cons_succ, List.set_cons_zero]
  refine GW.known _ rfl (fun hd hf => ?_) ?_
  · obtain ⟨B, hg, hB⟩ := h3 (hd 2 (by decide))
    rw [hg]
    have HC := Lib.hid (HG.out y B h1 hB)
    clear h3
    go_wp2_with fail
    refine HC.out.mono ?_
    rintro e u ⟨rfl, hb⟩
    go_wp2
    exact ⟨rfl, rfl, hb⟩
  simp only [Act.put, List.setIfInBounds_toArray, List.set_cons_succ, List.set_cons_zero]
  refine GW.known _ rfl (fun hd hf => ?_) ?_
  · go_wp2
    exact ⟨rfl, rfl, Below.refl _ _⟩
  simp only [Act.put, List.setIfInBounds_toArray, List.set_cons_succ, List.set_cons_zero]
  refine GW.nil (fun _ => ?_)
  clear h3
  go_wp2_with fail
  go_ret
  exact ⟨rfl, h1⟩

theorem encI_kid {t k : It} {d : Nat} (hr : RightI d t) (h : k ∈ t.kids) : (encI k).length ≤ (encI t).length := by
  rw [enc_held hr, List.length_append]
  unfold heldB
  rw [List.length_append]
  obtain ⟨j, hj⟩ := List.getElem?_of_mem h
  have h1 := encL_take t.kids j k hj
  have h2 := encL_part t.kids (j + 1)
  rw [h1, List.length_append] at h2
  omega
theorem right_kid {t k : It} {d : Nat} (hr : RightI d t) (h : k ∈ t.kids) : RightI (d - 1) k := by
  cases d with
  | zero => exact hr.elim
  | succ d => exact hr.2.2 k h

set_option maxRecDepth 100000 in
set_option maxHeartbeats 2000000 in
theorem size_step (t : It) (d : Nat) (hr : RightI d t) (hb : (encI t).length ≤ 2305843009213693952) (IH : ∀ k ∈ t.kids, SizeAt k) : SizeAt t := by
  intro v w ht
  obtain ⟨a, cap, rfl, hn, hs, hk⟩ := ht.open
  have he := enc_held hr
  have hel : (encI t).length = (headI t (heldB t).length).length + (heldB t).length := by rw [he, List.length_append]
  have Q := (Below.refl w.heap.size w).alloc (Nat.le_refl _) (.cells #[.bool t.list, .string t.bytes, .slice a t.kids.length cap] 29)
  have LX := Has.new w 29 #[.bool t.list, .string t.bytes, .slice a t.kids.length cap]
  obtain ⟨W1, hW1⟩ : ∃ W1, w.alloc (.cells #[.bool t.list, .string t.bytes, .slice a t.kids.length cap] 29) = W1 := ⟨_, rfl⟩
  rw [hW1] at LX Q
  have HH := Lib.hid (held_any t IH (by omega) _ W1 (ht.later Q))
  have HD := Lib.hid (fun W (hW : Below w.heap.size w W) => head_any t (heldB t).length (by omega) _ W (ht.later hW))
  rw [hel] at hb ⊢
  clear he hel hk IH ht hr
  have hsz : (⟨(headI t (heldB t).length).toArray⟩ : ByteArray).size = (headI t (heldB t).length).length := rfl
  unfold strV at HD
  generalize (⟨(headI t (heldB t).length).toArray⟩ : ByteArray) = hd at *
  generalize (headI t (heldB t).length).length = n1 at *
  generalize (heldB t).length = n2 at *
  generalize t.bytes = b at *
  generalize t.kids.length = n at *
  generalize t.list = l at *
  have c0 := LX.cell 0 _ rfl
  have c1 := LX.cell 1 _ rfl
  have c2 := LX.cell 2 _ rfl
  replace LX := Lib.hid LX
  replace Q := Lib.hid Q
  have hbI : (n1 : Int) + (n2 : Int) ≤ 2305843009213693952 := by omega
  have h1 : (0 : Int) ≤ (n1 : Int) := by omega
  have h2 : (0 : Int) ≤ (n2 : Int) := by omega
  have hcast := Lib.hid (Int.natCast_add n1 n2)
  clear hb
  go_enter Tryz.func27, Tryz.ntmps27
  go_wp2_with fail
  refine HH.out.mono ?_
  rintro _ W2 ⟨rfl, q⟩
  replace LX := Lib.hid (LX.out.later q)
  replace Q := Lib.hid (Q.out.trans (q.mono Q.out.size))
  clear q HH c0 c1 c2 hW1
  have c0 := LX.out.cell 0 _ rfl
  have c1 := LX.out.cell 1 _ rfl
  have c2 := LX.out.cell 2 _ rfl
  go_wp2_with fail
  refine (HD.out _ Q.out).mono ?_
  rintro _ W3 ⟨rfl, q⟩
  replace Q := Lib.hid (Q.out.trans (q.mono Q.out.size))
  clear q HD c0 c1 c2
  go_wp2_with fail
  go_ret
  exact ⟨by rw [hcast.out]; rfl, Q.out⟩
theorem size_any : ∀ (t : It) (d : Nat), RightI d t → (encI t).length ≤ 2305843009213693952 → SizeAt t := by
  refine It.induct ?_
  intro t ih d hr hb
  exact size_step t d hr hb (fun k hk => ih k hk (d - 1) (right_kid hr hk) (by have := encI_kid hr hk; omega))
theorem held_right (t : It) (d : Nat) (hr : RightI d t) (hb : (encI t).length ≤ 2305843009213693952) (v : Value) (w : World) (ht : ItemAt w t v) :
    Calls Tryz.prog 48 #[v] w fun e w' => e = .returned (.int .i64 (((heldB t).length : Nat) : Int)) ∧ Below w.heap.size w w' :=
  held_any t (fun k hk => size_any k (d - 1) (right_kid hr hk) (by have := encI_kid hr hk; omega)) (by have := enc_held hr; rw [this, List.length_append] at hb; omega) v w ht
end Go.Proofs.YtbbpmcebakckaaaGreatDoor

/- A string's bytes onto a slice of bytes of the call's own. Conditions: the lengths are in reach. -/
namespace Go.Proofs.YtbbpmcebakckaaaGreatDoor
open Go Go.RowKit
variable {P : Program} (w : World)

/-- A slice's block is the elder one's, or a new one. -/
def NewBlock (w : World) (v v' : Value) : Prop := v'.ownBlock = v.ownBlock ∨ v'.ownBlock = some w.heap.size

theorem run_append_str (base : Nat) (t u ty e : TypeId) (i : TypeInfo) (z : Value) (ht : P.underlying t = some (.slice e)) (hu : P.underlying u = some .string) (hi : P.info? e = some i) (hz : i.zero = some z)
    (hsize : i.size = 1) (hby : i.bytes = 1) (hzs : z.cells.size = 1) (v : Value) (n : Nat) (xs : List Value) (hown : w.ownsRow base e 1 v n xs) (s : ByteArray)
    (hb : n + s.size ≤ 140737488355328) (hbase : base ≤ w.heap.size) :
    ∃ v' w', (Builtin.append_ #[t, u] ty #[v, .string s]).run P w = .ok v' w' ∧ w'.ownsRow base e 1 v' (n + s.size) (xs ++ byteCells s) ∧ w.grownBy w' v.ownBlock ∧ NewBlock w v v' := by
  have hl := byteCells_length s
  have hsrc : Src P i.size u (.string s) s.size (byteCells s) w := by rw [hsize]; exact Src.ofString w hu s
  have h63 : n + s.size ≤ maxLen := by simp only [maxLen]; omega
  have hlen : (xs ++ byteCells s).length = (n + s.size) * 1 := by rw [List.length_append, hown.1, hl]; omega
  have grown : ∀ (old : Nat), old < n + s.size → ∀ (row : Option Nat),
      (w.drew.alloc (.cells (xs.toArray ++ (byteCells s).toArray ++ Builtin.zeroCells z.cells (grownCap w (n + s.size) old e - (n + s.size))) e)).ownsRow base e 1
        (.slice (some ⟨w.heap.size, 0, none⟩) (n + s.size) (grownCap w (n + s.size) old e)) (n + s.size) (xs ++ byteCells s) ∧
      w.grownBy (w.drew.alloc (.cells (xs.toArray ++ (byteCells s).toArray ++ Builtin.zeroCells z.cells (grownCap w (n + s.size) old e - (n + s.size))) e)) row := by
    intro old ho row
    have hge := grownCap_ge w (n + s.size) old e
    have hcm : grownCap w (n + s.size) old e ≤ maxLen := grownCap_le_maxLen w (n + s.size) old e h63
    refine ⟨⟨hlen, .inr ⟨w.heap.size, _, _, rfl, hbase, heap_alloc_new w.drew _, hge, hcm, ?_, ?_⟩⟩, ⟨rfl, rfl, rfl, by simp, fun k hk _ => Below.heap_alloc w.drew _ k hk⟩⟩
    · simp only [Array.size_append, List.size_toArray, size_zeroCells, hzs, hown.1, hl]
      omega
    · simp only [Array.toList_append, List.append_assoc]
      rw [← List.append_assoc, ← hlen]
      exact List.take_left
  rcases hown.2 with ⟨rfl, rfl⟩ | ⟨g, cap, cur, rfl, hbg, hg, hnc, hcm, hcs, htake⟩
  · have hx : xs = [] := List.eq_nil_of_length_eq_zero (by simpa using hown.1)
    subst hx
    by_cases hm : s.size = 0
    · obtain rfl : s = ByteArray.empty := ByteArray.ext (Array.eq_empty_of_size_eq_zero hm)
      refine ⟨.slice none 0 0, w, ?_, World.ownsRow_nil w base e 1, ⟨rfl, rfl, rfl, Nat.le_refl _, fun _ _ _ => rfl⟩, .inl rfl⟩
      simp [Builtin.append_, run_underlying ht, run_underlying hu, sizeOf, typeInfo, hi, Builtin.lenOf, Builtin.firstCells]
    · have hr := run_append_grow_src (P := P) w t u ty e i z ht hi hz none 0 0 [] (by simp [Builtin.firstCells]) (.string s) s.size (byteCells s) hsrc (by omega) (by simp only [maxLen] at h63; omega) (growslice_fits (by omega) (by rw [hby]; omega))
      have hgr := grown 0 (by omega) (Value.ownBlock (.slice none 0 0))
      simp only [List.nil_append, Array.empty_append, Nat.zero_add] at hr hgr ⊢
      exact ⟨_, _, hr, hgr.1, hgr.2, .inr rfl⟩
  · by_cases hroom : n + s.size ≤ cap
    · have hfit : n * 1 + (byteCells s).length ≤ cur.size := by rw [hl, hcs]; omega
      have hst := run_storeCells_at P g (n * i.size) e (byteCells s) 0 cur w hg (by rw [hsize]; simpa using hfit) hsrc.one
      simp only [Nat.add_zero] at hst
      have hr : (Builtin.append_ #[t, u] ty #[.slice (some ⟨g, 0, none⟩) n cap, .string s]).run P w = .ok (.slice (some ⟨g, 0, none⟩) (n + s.size) cap) (w.setRow g (cur.toList.take (n * i.size) ++ byteCells s ++ cur.toList.drop (n * i.size + (byteCells s).length)).toArray) := by
        simp [Builtin.append_, run_underlying ht, run_underlying hu, sizeOf, typeInfo, hi, hsrc.len, Builtin.lenOf, hroom, hsrc.cells, Addr.add_lit, hst]
      rw [hsize] at hr
      refine ⟨_, _, hr, ⟨hlen, .inr ⟨g, cap, _, rfl, hbg, setRow_heap w g cur _ e _ hg, hroom, hcm, ?_, ?_⟩⟩, ⟨rfl, rfl, rfl, by simp, fun k _ hk => setRow_other w g k _ (fun e => hk (by simp [Value.ownBlock, e]))⟩, .inl rfl⟩
      · simp only [List.size_toArray, List.length_append, List.length_take, List.length_drop, Array.length_toList]
        omega
      · rw [htake, ← hlen]
        exact List.take_left
    · have holds : (Builtin.firstCells i.size n (.slice (some ⟨g, 0, none⟩) n cap)).run P w.drew = .ok xs.toArray w.drew := by
        rw [hsize]
        exact run_firstCells_some w.drew 1 n ⟨g, 0, none⟩ n cap xs hown.1 (fun j u hj => by
          have := hown.cells (g := g) rfl j u hj
          simpa using this)
      have hr := run_append_grow_src (P := P) w t u ty e i z ht hi hz (some ⟨g, 0, none⟩) n cap xs holds (.string s) s.size (byteCells s) hsrc (by omega) (by simp only [maxLen] at h63; omega) (growslice_fits (by omega) (by rw [hby]; omega))
      have hgr := grown cap (by omega) (Value.ownBlock (.slice (some ⟨g, 0, none⟩) n cap))
      have hap : ((xs ++ byteCells s).toArray : Array Value) = xs.toArray ++ (byteCells s).toArray := by simp
      rw [hap] at hr
      exact ⟨_, _, hr, hgr.1, hgr.2, .inr rfl⟩

theorem wpList_append_str {ops : Array Oper} {rest : List Oper} {o : Oper} {a : Act} {Q : Exit → Act → World → Prop} (hgd : o.guard = none) (s x : Operand) (t u : TypeId)
    (ho : o.op = .call { callee := .builtin .append, args := #[s, x], argTypes := #[t, u] })
    (base : Nat) (e : TypeId) (i : TypeInfo) (z : Value) (ht : P.underlying t = some (.slice e)) (hu : P.underlying u = some .string) (hi : P.info? e = some i) (hz : i.zero = some z)
    (hsize : i.size = 1) (hby : i.bytes = 1) (hzs : z.cells.size = 1) (v : Value) (n : Nat) (xs : List Value) (hs : a.eval s = v) (hown : w.ownsRow base e 1 v n xs) (str : ByteArray) (hx : a.eval x = .string str)
    (hb : n + str.size ≤ 140737488355328) (hbase : base ≤ w.heap.size)
    (h : ∀ v' w', w'.ownsRow base e 1 v' (n + str.size) (xs ++ byteCells str) → w.grownBy w' v.ownBlock → NewBlock w v v' → wpList P ops Q rest (a.put o.dst v') w') : wpList P ops Q (o :: rest) a w := by
  refine wpList_plain hgd fun K hK => ?_
  obtain ⟨v', w', hr, h2, h3, h4⟩ := run_append_str (P := P) w base t u o.type e i z ht hu hi hz hsize hby hzs v n xs hown str hb hbase
  unfold Oper.wp execOp
  simp only [ho, resolve, invoke, builtin, Sem.run_bind, Sem.run_pure, Result.andThen_ok, List.map_toArray, List.map_cons, List.map_nil, hs, hx, hr]
  exact hK _ _ (h v' w' h2 h3 h4)
end Go.Proofs.YtbbpmcebakckaaaGreatDoor
