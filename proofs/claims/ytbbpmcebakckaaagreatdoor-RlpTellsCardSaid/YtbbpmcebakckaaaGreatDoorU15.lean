import Derived.Test.YtbbpmcebakckaaaGreatDoorU13
import Derived.Test.YtbbpmcebakckaaaGreatDoorU14
/- The reader: list. Conditions: the reader lies in memory; places are in reach; the contract of one item. -/
namespace Go.Proofs.YtbbpmcebakckaaaGreatDoor
open Go Go.RowKit
attribute [local go_sem] Oper.semAt_some Grows wide_fn

/-- A list at a place, one item more being begun. -/
def rdList (s : ByteArray) (d e a m : Nat) : Rd It :=
  match rdHead s.data.toList (byteAt s.data.toList a - 192) e a with
  | .no x p => .no x p
  | .ok n fr _ => match rdLoop (rdI s d (fr + n)) (fr + n) (fr + n - fr) fr m [] with
    | .no x p => .no x p
    | .ok ks a' m' => .ok (.mk true ⟨#[]⟩ ks) a' m'

theorem Has.inj {W : World} {B : Nat} {t u : TypeId} {cs ds : Array Value} (h : Has W B t cs) (k : Has W B u ds) : cs = ds := by
  unfold Has at h k
  rw [h] at k
  injection k with k
  injection k with k _ _
theorem runK_len {rd : Nat → Nat → Rd It} {a0 m0 : Nat} (hrd : ∀ b n t a' m', rd b n = .ok t a' m' → b < a') : ∀ (k a m : Nat) (acc : List It), runK rd a0 m0 k = .ok acc a m → acc.length = k ∧ a0 + k ≤ a
  | 0, a, m, acc, h => by
    rw [runK] at h
    injection h with h1 h2 h3
    subst h1 h2
    exact ⟨rfl, by omega⟩
  | k + 1, a, m, acc, h => by
    rw [runK] at h
    rcases h1 : runK rd a0 m0 k with ⟨acc1, a1, m1⟩ | ⟨x, p⟩
    · rw [h1] at h
      simp only at h
      rcases h2 : rd a1 m1 with ⟨t, a2, m2⟩ | ⟨x, p⟩
      · rw [h2] at h
        injection h with e1 e2 e3
        subst e1 e2
        have := runK_len hrd k a1 m1 acc1 h1
        have := hrd _ _ _ _ _ h2
        exact ⟨by simp; omega, by omega⟩
      · rw [h2] at h; cases h
    · rw [h1] at h; cases h

/-- What the list's loop holds. -/
def LstSt (s : ByteArray) (R d e a0 m0 : Nat) (w : World) (B8 B9 Bo base k : Nat) (W : World) : Prop :=
  ∃ acc sv, (∃ a m, runK (rdI s d e) a0 m0 k = .ok acc a m) ∧ Has W Bo 29 #[.bool true, .string ⟨#[]⟩, sv] ∧ RowK W base sv acc ∧ Has W B8 29 #[.bool false, .string ⟨#[]⟩, .slice none 0 0] ∧ Has W B9 65 #[.nilIface] ∧ w.grownBy W (some R) ∧ base ≤ W.heap.size
/-- What it holds where it was left. -/
def LstNo (s : ByteArray) (R d e a0 m0 : Nat) (w : World) (B8 B9 k : Nat) (W : World) : Prop :=
  ∃ x p, runK (rdI s d e) a0 m0 (k + 1) = .no x p ∧ Has W B8 29 #[.bool false, .string ⟨#[]⟩, .slice none 0 0] ∧ Has W B9 65 #[fltV x p] ∧ w.grownBy W (some R)
theorem grown_own {w A X : World} {R n : Nat} {row : Option Nat} (h : w.grownBy A (some R)) (hg : A.grownBy X row) (hn : w.heap.size ≤ n) (hr : ∀ r, row = some r → n ≤ r) : w.grownBy X (some R) :=
  ⟨hg.os.trans h.os, hg.tape.trans h.tape, hg.output.trans h.output, Nat.le_trans h.size hg.size, fun k hk hne => (hg.block k (Nat.lt_of_lt_of_le hk h.size) (fun e => by have := hr k e.symm; omega)).trans (h.block k hk hne)⟩
theorem grown_trans {w A X : World} {R : Nat} (h : w.grownBy A (some R)) (hg : A.grownBy X (some R)) : w.grownBy X (some R) :=
  ⟨hg.os.trans h.os, hg.tape.trans h.tape, hg.output.trans h.output, Nat.le_trans h.size hg.size, fun k hk hne => (hg.block k (Nat.lt_of_lt_of_le hk h.size) hne).trans (h.block k hk hne)⟩
theorem LstSt.own {s : ByteArray} {R d e a0 m0 : Nat} {w : World} {B8 B9 Bo base n : Nat} (hn : w.heap.size ≤ n) : OwnFrom n (fun k W => LstSt s R d e a0 m0 w B8 B9 Bo base k W) := fun k A X row hs hg hr => by
  obtain ⟨acc, sv, h1, h2, h3, h4, h5, h6, h7⟩ := hs
  exact ⟨acc, sv, h1, h2.own' hg (fun r e => (hr r e).2), h3.keep (fun b o _ ho hc => keeps_own hg (fun r e => (hr r e).2) b o ho hc), h4.own' hg (fun r e => (hr r e).2), h5.own' hg (fun r e => (hr r e).2), grown_own h6 hg hn (fun r e => (hr r e).1), Nat.le_trans h7 hg.size⟩
theorem LstNo.own {s : ByteArray} {R d e a0 m0 : Nat} {w : World} {B8 B9 n : Nat} (hn : w.heap.size ≤ n) : OwnFrom n (fun k W => LstNo s R d e a0 m0 w B8 B9 k W) := fun k A X row hs hg hr => by
  obtain ⟨x, p, h1, h4, h5, h6⟩ := hs
  exact ⟨x, p, h1, h4.own' hg (fun r e => (hr r e).2), h5.own' hg (fun r e => (hr r e).2), grown_own h6 hg hn (fun r e => (hr r e).1)⟩
theorem LstSt.sr {s : ByteArray} {R d e a0 m0 : Nat} {w : World} {B8 B9 Bo base k : Nat} (h8 : B8 ≠ R) (h9 : B9 ≠ R) (ho : Bo ≠ R) (hb : R < base) {A X : World} (hs : LstSt s R d e a0 m0 w B8 B9 Bo base k A) (h : SR R A X) : LstSt s R d e a0 m0 w B8 B9 Bo base k X := by
  obtain ⟨acc, sv, h1, h2, h3, h4, h5, h6, h7⟩ := hs
  exact ⟨acc, sv, h1, h2.sr h.1 ho, h3.keep (fun b o hbb hob _ => (h.1.block b (Array.getElem?_eq_some_iff.1 hob).1 (fun e => by injection e with e; omega)).trans hob), h4.sr h.1 h8, h5.sr h.1 h9, grown_trans h6 h.1, Nat.le_trans h7 h.1.size⟩
theorem LstNo.sr {s : ByteArray} {R d e a0 m0 : Nat} {w : World} {B8 B9 k : Nat} (h8 : B8 ≠ R) (h9 : B9 ≠ R) {A X : World} (hs : LstNo s R d e a0 m0 w B8 B9 k A) (h : SR R A X) : LstNo s R d e a0 m0 w B8 B9 k X := by
  obtain ⟨x, p, h1, h4, h5, h6⟩ := hs
  exact ⟨x, p, h1, h4.sr h.1 h8, h5.sr h.1 h9, grown_trans h6 h.1⟩

set_option maxRecDepth 100000 in
set_option maxHeartbeats 8000000 in
theorem list_bad (s : ByteArray) (R d a m e c x p : Nat) (w : World) (hR : Has w R 100 (rdC s a m)) (hs : s.size ≤ 1099511627776) (he : e ≤ s.size) (ha : a < e) (hc : 192 ≤ c) (hc2 : c < 256) (hbc : byteAt s.data.toList a = c)
    (hh : rdHead s.data.toList (c - 192) e a = .no x p) :
    Calls Tryz.prog 75 #[.pointer (some ⟨R, 0, none⟩), .int .i64 (c : Int), .int .i64 (e : Int), .int .i64 ((15 - d : Nat) : Int)] w (ItP s R w (rdList s d e a m)) := by
  have hmx : Tryz.prog.follows .mixedOrders = true := by kernel_rfl
  have hT : rdList s d e a m = .no x p := by
    unfold rdList
    rw [hbc, hh]
  rw [hT]
  have hcI : (192 : Int) ≤ (c : Int) := by omega
  have hcI2 : (c : Int) < 256 := by omega
  have LS := (Has.new w 29 #[.bool false, .string ⟨#[]⟩, .slice none 0 0]).alloc (.cells #[.nilIface] 65)
  have LE := Has.new (w.alloc (.cells #[.bool false, .string ⟨#[]⟩, .slice none 0 0] 29)) 65 #[.nilIface]
  simp only [World.size_alloc] at LE
  have LR := (hR.alloc (.cells #[.bool false, .string ⟨#[]⟩, .slice none 0 0] 29)).alloc (.cells #[.nilIface] 65)
  have Q := ((Below.refl w.heap.size w).alloc (Nat.le_refl _) (.cells #[.bool false, .string ⟨#[]⟩, .slice none 0 0] 29)).alloc (by simp) (.cells #[.nilIface] 65)
  have hRlt := hR.lt
  obtain ⟨W1, hW1⟩ : ∃ W1, (w.alloc (.cells #[.bool false, .string ⟨#[]⟩, .slice none 0 0] 29)).alloc (.cells #[.nilIface] 65) = W1 := ⟨_, rfl⟩
  rw [hW1] at LS LE LR Q
  have HI := inside_any s a m e (c - 192) R W1 LR hs he ha (by omega)
  rw [show ((c - 192 : Nat) : Int) = (c : Int) - 192 by omega, hh, insV_no] at HI
  have hno := Lib.hid (show ∀ y, Below w.heap.size w y → ItP s R w (.no x p) (.returned (.tuple #[.agg #[.bool false, .string ⟨#[]⟩, .slice none 0 0], fltV x p])) y from fun y h2 => ⟨rfl, grown_of_below h2 _⟩)
  replace LS := Lib.hid LS
  replace LE := Lib.hid LE
  replace Q := Lib.hid Q
  replace HI := Lib.hid HI
  clear hR hs he ha hc hc2 hbc hh hT LR
  generalize ((15 - d : Nat) : Int) = dI at *
  go_enter Tryz.func75, Tryz.ntmps75
  go_wp2_with fail
  refine HI.out.mono ?_
  rintro _ W2 ⟨rfl, q⟩
  have q2 := Q.out.trans (q.mono Q.out.size)
  have LS2 := (LS.out.later q).alloc (.cells #[.int .i64 0, .int .i64 0] 154)
  have LE2 := (LE.out.later q).alloc (.cells #[.int .i64 0, .int .i64 0] 154)
  have Q2 := q2.alloc q2.size (.cells #[.int .i64 0, .int .i64 0] 154)
  have NX := Has.new W2 154 #[.int .i64 0, .int .i64 0]
  have y0 := NX.cell 0 _ rfl
  have y1 := NX.cell 1 _ rfl
  have g0 := NX.frozen 0
  have g1 := NX.frozen 1
  have f0 := LS2.frozen 0
  have f1 := LS2.frozen 1
  have f2 := LS2.frozen 2
  have x0 := LS2.cell 0 _ rfl
  have x1 := LS2.cell 1 _ rfl
  have x2 := LS2.cell 2 _ rfl
  have f3 := LE2.frozen 0
  have x3 := LE2.cell 0 _ rfl
  have S := (((LS2.set 0 (.bool false)).set 1 (.string ⟨#[]⟩)).set 2 (.slice none 0 0)).other (p := ⟨w.heap.size + 1, 0, none⟩) (by simp) (fltV x p)
  have SE := (((LE2.other (p := ⟨w.heap.size, 0, none⟩) (by simp) (.bool false)).other (p := ⟨w.heap.size, 1, none⟩) (by simp) (.string ⟨#[]⟩)).other (p := ⟨w.heap.size, 2, none⟩) (by simp) (.slice none 0 0)).set 0 (fltV x p)
  have z0 := Lib.hid (S.cell 0 _ rfl)
  have z1 := Lib.hid (S.cell 1 _ rfl)
  have z2 := Lib.hid (S.cell 2 _ rfl)
  have z3 := Lib.hid (SE.cell 0 _ rfl)
  have hE := Lib.hid (hno.out _ ((((Q2.setCell (p := ⟨w.heap.size, 0, none⟩) (by simp) (.bool false)).setCell (p := ⟨w.heap.size, 1, none⟩) (by simp) (.string ⟨#[]⟩)).setCell (p := ⟨w.heap.size, 2, none⟩) (by simp) (.slice none 0 0)).setCell (p := ⟨w.heap.size + 1, 0, none⟩) (by simp) (fltV x p)))
  replace NX := Lib.hid NX
  replace LS2 := Lib.hid LS2
  replace LE2 := Lib.hid LE2
  replace Q2 := Lib.hid Q2
  replace S := Lib.hid S
  replace SE := Lib.hid SE
  clear q q2 hW1 HI
  go_wp2_with fail
  replace z0 := z0.out
  replace z1 := z1.out
  replace z2 := z2.out
  replace z3 := z3.out
  exact bodyPost_ret (v := .tuple #[.agg #[.bool false, .string ⟨#[]⟩, .slice none 0 0], fltV x p]) (by simp [results, Tryz.results75, go_sem, z0, z1, z2, z3]) rfl hE.out

set_option maxRecDepth 100000 in
set_option maxHeartbeats 8000000 in
theorem list_good (s : ByteArray) (R d a m0 e c n fr x0 : Nat) (w : World) (IH : ItemOK s R d) (hd : d ≤ 15) (hR : Has w R 100 (rdC s a m0)) (hs : s.size ≤ 1099511627776) (he : e ≤ s.size) (ha : a < e) (hm0 : m0 ≤ 5000) (hc : 192 ≤ c) (hc2 : c < 256) (hbc : byteAt s.data.toList a = c)
    (hh : rdHead s.data.toList (c - 192) e a = .ok n fr x0) :
    Calls Tryz.prog 75 #[.pointer (some ⟨R, 0, none⟩), .int .i64 (c : Int), .int .i64 (e : Int), .int .i64 ((15 - d : Nat) : Int)] w (ItP s R w (rdList s d e a m0)) := by
  have hmx : Tryz.prog.follows .mixedOrders = true := by kernel_rfl
  obtain ⟨hhd1, hfr, hfit⟩ := rdHead_ok 192 (by omega) (by omega) ha (by rw [← size_list]; exact he) hh
  have hprog : ∀ b n' t a' m', rdI s d (fr + n) b n' = .ok t a' m' → b < a' := fun b n' t a' m' h => (rdItem_ok 5000 s.data.toList d (fr + n) b n' t a' m' (by rw [← size_list]; omega) h).1
  obtain ⟨N, hN0, hN1, hN2, hN3⟩ := loop_run (rd := rdI s d (fr + n)) (e := fr + n) (a0 := fr) (m0 := m0) (fun b n' t a' m' _ h => hprog b n' t a' m' h) (fr + n - fr) 0 fr m0 [] rfl (by omega)
  have hT : rdList s d e a m0 = (match runK (rdI s d (fr + n)) fr m0 N with
    | .no x p => .no x p
    | .ok ks a' m' => .ok (.mk true ⟨#[]⟩ ks) a' m') := by
    unfold rdList
    rw [hbc, hh]
    simp only [hN3]
  obtain ⟨r, hr⟩ : ∃ r, rdList s d e a m0 = r := ⟨_, rfl⟩
  rw [hr] at hT ⊢
  have hlen := runK_len (a0 := fr) (m0 := m0) hprog
  have hcI : (192 : Int) ≤ (c : Int) := by omega
  have hcI2 : (c : Int) < 256 := by omega
  have LS := (Has.new w 29 #[.bool false, .string ⟨#[]⟩, .slice none 0 0]).alloc (.cells #[.nilIface] 65)
  have LE := Has.new (w.alloc (.cells #[.bool false, .string ⟨#[]⟩, .slice none 0 0] 29)) 65 #[.nilIface]
  simp only [World.size_alloc] at LE
  have LR := (hR.alloc (.cells #[.bool false, .string ⟨#[]⟩, .slice none 0 0] 29)).alloc (.cells #[.nilIface] 65)
  have Q := ((Below.refl w.heap.size w).alloc (Nat.le_refl _) (.cells #[.bool false, .string ⟨#[]⟩, .slice none 0 0] 29)).alloc (by simp) (.cells #[.nilIface] 65)
  have hRlt := hR.lt
  have hs1 : ((w.alloc (.cells #[.bool false, .string ⟨#[]⟩, .slice none 0 0] 29)).alloc (.cells #[.nilIface] 65)).heap.size = w.heap.size + 2 := by simp
  obtain ⟨W1, hW1⟩ : ∃ W1, (w.alloc (.cells #[.bool false, .string ⟨#[]⟩, .slice none 0 0] 29)).alloc (.cells #[.nilIface] 65) = W1 := ⟨_, rfl⟩
  rw [hW1] at LS LE LR Q hs1
  have HI := inside_any s a m0 e (c - 192) R W1 LR hs he ha (by omega)
  rw [show ((c - 192 : Nat) : Int) = (c : Int) - 192 by omega, hh] at HI
  rw [show insV (.ok n fr x0) = .tuple #[.agg #[.int .i64 (fr : Int), .int .i64 ((fr : Int) + (n : Int))], .nilIface] from by
    show Value.tuple #[.agg #[.int .i64 (fr : Int), .int .i64 ((fr + n : Nat) : Int)], .nilIface] = _
    rw [Int.natCast_add]] at HI
  have hdI : ((15 - d : Nat) : Int) + 1 = ((16 - d : Nat) : Int) := by omega
  have hdI0 : (0 : Int) ≤ ((15 - d : Nat) : Int) := by omega
  have hdI1 : ((15 - d : Nat) : Int) ≤ 15 := by omega
  have HIT := items_any R (fr + n) (16 - d)
  rw [show ((fr + n : Nat) : Int) = (fr : Int) + (n : Int) by omega, ← hdI] at HIT
  replace HIT := Lib.hid HIT
  replace LS := Lib.hid LS
  replace LE := Lib.hid LE
  replace LR := Lib.hid LR
  replace Q := Lib.hid Q
  replace HI := Lib.hid HI
  replace hs1 := Lib.hid hs1
  have HB := Lib.hid (And.intro hs (And.intro he (And.intro hfr (And.intro hfit hm0))))
  have HN := Lib.hid (And.intro hN1 hN2)
  have HIH := Lib.hid IH
  have HR := Lib.hid hT
  have HL := Lib.hid hlen
  have HP := Lib.hid hprog
  have HD := Lib.hid (And.intro hd hdI)
  clear hR hs he ha hc hc2 hbc hh hT IH hhd1 hfr hfit hprog hN0 hN1 hN2 hN3 hr hlen hm0 hd hdI
  obtain ⟨dI, hdIe⟩ : ∃ dI, ((15 - d : Nat) : Int) = dI := ⟨_, rfl⟩
  rw [hdIe] at HIT hdI0 hdI1 HD ⊢
  clear hdIe
  refine (callsIn_wide (n := 8)).1 ?_
  refine callsIn_of_wp_marks Tryz.func75 rfl trivial ?_ rfl
  simp only [Tryz.ntmps75, List.size_toArray, List.length_cons, List.length_nil, Nat.reduceAdd, Nat.reduceSub, Array.replicate_succ, Array.replicate_zero, List.push_toArray, List.append_toArray, List.nil_append, List.cons_append]
  gi_wp2_with fail
  refine (callsIn_free free_wide HI.out).mono ?_
  rintro _ W2 ⟨rfl, q⟩
  have LS2 := LS.out.later q
  have LE2 := LE.out.later q
  have LR2 := LR.out.later q
  have Q2 := Q.out.trans (q.mono Q.out.size)
  have hs2 : w.heap.size + 2 ≤ W2.heap.size := by have := q.size; have := hs1.out; omega
  clear q hW1 HI hs1
  have NX := Has.new W2 154 #[.int .i64 0, .int .i64 0]
  have y0 := NX.cell 0 _ rfl
  have y1 := NX.cell 1 _ rfl
  have g0 := NX.frozen 0
  have g1 := NX.frozen 1
  -- the worlds behind
  obtain ⟨B10, hB10⟩ : ∃ B10, W2.heap.size = B10 := ⟨_, rfl⟩
  have LP := Has.new W2 154 #[.int .i64 (fr : Int), .int .i64 ((fr : Int) + (n : Int))]
  have LS3 := LS2.alloc (.cells #[.int .i64 (fr : Int), .int .i64 ((fr : Int) + (n : Int))] 154)
  have LE3 := LE2.alloc (.cells #[.int .i64 (fr : Int), .int .i64 ((fr : Int) + (n : Int))] 154)
  have LR3 := LR2.alloc (.cells #[.int .i64 (fr : Int), .int .i64 ((fr : Int) + (n : Int))] 154)
  have Q3 := Q2.alloc Q2.size (.cells #[.int .i64 (fr : Int), .int .i64 ((fr : Int) + (n : Int))] 154)
  have hs3 : (W2.alloc (.cells #[.int .i64 (fr : Int), .int .i64 ((fr : Int) + (n : Int))] 154)).heap.size = B10 + 1 := by rw [World.size_alloc, hB10]
  rw [hB10] at LP NX y0 y1 g0 g1
  obtain ⟨W3, hW3⟩ : ∃ W3, W2.alloc (.cells #[.int .i64 (fr : Int), .int .i64 ((fr : Int) + (n : Int))] 154) = W3 := ⟨_, rfl⟩
  rw [hW3] at LP LS3 LE3 LR3 Q3 hs3
  have p0 := LP.cell 0 (.int .i64 (fr : Int)) rfl
  have p1 := LP.cell 1 (.int .i64 ((fr : Int) + (n : Int))) rfl
  have r1 := LR3.cell 1 (.int .i64 (a : Int)) rfl
  have fr1 := LR3.frozen 1
  have LR4 := LR3.set 1 (.int .i64 (fr : Int))
  have LS4 := LS3.other (p := ⟨R, 1, none⟩) (by simp; omega) (.int .i64 (fr : Int))
  have LE4 := LE3.other (p := ⟨R, 1, none⟩) (by simp; omega) (.int .i64 (fr : Int))
  have LP4 := LP.other (p := ⟨R, 1, none⟩) (by simp; omega) (.int .i64 (fr : Int))
  have G4 := grown_set' (grown_of_below Q3 (some R)) 1 (.int .i64 (fr : Int))
  have hs4 : (W3.setCell ⟨R, 1, none⟩ (.int .i64 (fr : Int))).heap.size = B10 + 1 := by simpa [World.setCell] using hs3
  obtain ⟨W4, hW4⟩ : ∃ W4, W3.setCell ⟨R, 1, none⟩ (.int .i64 (fr : Int)) = W4 := ⟨_, rfl⟩
  rw [hW4] at LR4 LS4 LE4 LP4 G4 hs4
  obtain ⟨Bo, hBo⟩ : ∃ Bo, W4.heap.size = Bo := ⟨_, rfl⟩
  have LO5 := Has.new W4 29 #[.bool true, .string ⟨#[]⟩, .slice none 0 0]
  rw [hBo] at LO5
  have LS5 := LS4.alloc (.cells #[.bool true, .string ⟨#[]⟩, .slice none 0 0] 29)
  have LE5 := LE4.alloc (.cells #[.bool true, .string ⟨#[]⟩, .slice none 0 0] 29)
  have LR5 := LR4.alloc (.cells #[.bool true, .string ⟨#[]⟩, .slice none 0 0] 29)
  have LP5 := LP4.alloc (.cells #[.bool true, .string ⟨#[]⟩, .slice none 0 0] 29)
  have G5 := grown_alloc G4 (.cells #[.bool true, .string ⟨#[]⟩, .slice none 0 0] 29)
  have hs5 : (W4.alloc (.cells #[.bool true, .string ⟨#[]⟩, .slice none 0 0] 29)).heap.size = Bo + 1 := by rw [World.size_alloc, hBo]
  obtain ⟨W5, hW5⟩ : ∃ W5, W4.alloc (.cells #[.bool true, .string ⟨#[]⟩, .slice none 0 0] 29) = W5 := ⟨_, rfl⟩
  have p5 := LP5.cell 1 (.int .i64 ((fr : Int) + (n : Int))) rfl
  rw [hW5] at LO5 LS5 LE5 LR5 LP5 G5 hs5
  replace hW5 := Lib.hid hW5
  have MX := Has.new W4 29 #[.bool false, .string ⟨#[]⟩, .slice none 0 0]
  have m0' := MX.cell 0 _ rfl
  have m1' := MX.cell 1 _ rfl
  have m2' := MX.cell 2 _ rfl
  have n0' := MX.frozen 0
  have n1' := MX.frozen 1
  have n2' := MX.frozen 2
  replace hBo := Lib.hid hBo
  have hsB := Lib.hid (show w.heap.size + 2 ≤ B10 ∧ Bo = B10 + 1 from ⟨by omega, by have := hBo.out; omega⟩)
  replace LO5 := Lib.hid LO5
  replace LS5 := Lib.hid LS5
  replace LE5 := Lib.hid LE5
  replace LR5 := Lib.hid LR5
  replace LP5 := Lib.hid LP5
  replace G5 := Lib.hid G5
  replace hs5 := Lib.hid hs5
  replace MX := Lib.hid MX
  clear LS4 LE4 LR4 LP4 G4 hs4
  replace hs3 := Lib.hid hs3
  replace hs2 := Lib.hid hs2
  replace NX := Lib.hid NX
  clear LS2 LE2 LR2 Q2 LS3 LE3 LR3 Q3 LP LS LE LR Q
  gi_wp2_with fail
  rw [hW5.out, hBo.out]
  refine (callsIn_free free_wide (HIT.out W5)).mono ?_
  rintro _ W6 ⟨rfl, hW6⟩
  rw [hs5.out]
  clear y0 y1 g0 g1 p0 p1 r1 fr1 p5 m0' m1' m2' n0' n1' n2' hs3 hs2 NX MX hW3 hW4 hW5 hBo hB10 HIT
  have L1 := ((Has.new W5 130 #[.pointer (some ⟨R, 0, none⟩)]).alloc (.cells #[.int .i64 ((fr : Int) + (n : Int))] 3)).alloc (.cells #[.int .i64 (dI + 1)] 3)
  have L2 := (Has.new (W5.alloc (.cells #[.pointer (some ⟨R, 0, none⟩)] 130)) 3 #[.int .i64 ((fr : Int) + (n : Int))]).alloc (.cells #[.int .i64 (dI + 1)] 3)
  have L3 := Has.new ((W5.alloc (.cells #[.pointer (some ⟨R, 0, none⟩)] 130)).alloc (.cells #[.int .i64 ((fr : Int) + (n : Int))] 3)) 3 #[.int .i64 (dI + 1)]
  simp only [World.size_alloc, hs5.out] at L1 L2 L3
  rw [hW6] at L1 L2 L3
  have q6 : Below W5.heap.size W5 W6 := by rw [← hW6]; exact (((Below.refl _ W5).alloc (Nat.le_refl _) _).alloc (by simp) _).alloc (by simp; omega) _
  have hs6 := Lib.hid (show W6.heap.size = Bo + 4 by rw [← hW6, World.size_alloc, World.size_alloc, World.size_alloc, hs5.out])
  replace LO5 := Lib.hid (LO5.out.later q6)
  replace LS5 := Lib.hid (LS5.out.later q6)
  replace LE5 := Lib.hid (LE5.out.later q6)
  replace LR5 := Lib.hid (LR5.out.later q6)
  replace G5 := Lib.hid (grown_then_below G5.out q6)
  rw [show (fr : Int) + (n : Int) = ((fr + n : Nat) : Int) by omega] at L2
  rw [HD.out.2] at L3
  replace L1 := Lib.hid L1
  replace L2 := Lib.hid L2
  replace L3 := Lib.hid L3
  clear hW6 q6 hs5 LP5
  gi_wp2_with fail
  have hRb : R < Bo ∧ w.heap.size + 1 < Bo := by have := hsB.out; omega
  obtain ⟨base, hbase⟩ : ∃ base, W6.heap.size = base := ⟨_, rfl⟩
  have hbB := Lib.hid (show base = Bo + 4 by rw [← hbase, hs6.out])
  refine wpIn_rangeFunc_D rfl (by omega) (gf := 95) (lb := #[.pointer (some ⟨Bo + 1, 0, none⟩), .pointer (some ⟨Bo + 1 + 1, 0, none⟩), .pointer (some ⟨Bo + 1 + 1 + 1, 0, none⟩)]) rfl trivial (enters_of Tryz.func95 (by kernel_rfl) rfl)
    (items_seq _ s R (Bo + 1) (Bo + 1 + 1) (Bo + 1 + 1 + 1) d (fr + n) fr m0 N W6 HIH.out HB.out.1 (by have := HB.out; omega) (by omega) HB.out.2.2.2.2 (fun j hj => HN.out.1 j (Nat.zero_le _) hj) HN.out.2 LR5.out L1.out L2.out L3.out)
    (fun _ A X row hs hg hr acc a m h => (hs acc a m h).own' hg (fun r e => (hr r e).2)) (SR.keeps R) KeepsAt.trans (KeepsAt.b (by intro b hb; simp at hb; have := hs6.out; omega)) (fun k args A W hk hE => by
      obtain ⟨acc, a, m, h1, _⟩ := HN.out.1 k (Nat.zero_le _) hk
      have := hE acc a m h1
      rcases hr : rdI s d (fr + n) a m with ⟨t, a', m'⟩ | ⟨x, p⟩
      · rw [hr] at this; obtain ⟨v, e, _⟩ := this; rw [e]; rfl
      · rw [hr] at this; rw [this]; rfl)
    (fun k W => LstSt s R d (fr + n) fr m0 w w.heap.size (w.heap.size + 1) Bo base k W) (fun c' k W => c' = .ret ∧ LstNo s R d (fr + n) fr m0 w w.heap.size (w.heap.size + 1) k W)
    (LstSt.own (by have := hs6.out; omega)) (fun c' => fun k A X row hs hg hr => ⟨hs.1, LstNo.own (n := W6.heap.size) (by have := hs6.out; omega) k A X row hs.2 hg hr⟩)
    (fun k A X hs h => hs.sr (by omega) (by omega) (by omega) (by have := hbB.out; omega) h) (fun c' k A X hs h => ⟨hs.1, hs.2.sr (by omega) (by omega) h⟩)
    ⟨[], .slice none 0 0, ⟨fr, m0, rfl⟩, LO5.out, RowK.nil _ _, LS5.out, LE5.out, G5.out, Nat.le_of_eq hbase.symm⟩
    (fun k a' V => ∃ acc a m sv bx u0 u1 u2 ev, runK (rdI s d (fr + n)) fr m0 k = .ok acc a m ∧ (Has V Bo 29 #[.bool true, .string ⟨#[]⟩, sv] ∧ Has V bx 29 #[u0, u1, u2] ∧ base ≤ bx ∧ sv.ownBlock ≠ some bx) ∧ (match rdI s d (fr + n) a m with | .ok t _ _ => ev = .nilIface ∧ ItemS V (fun b => base ≤ b ∧ sv.ownBlock ≠ some b) t (.agg #[u0, u1, u2]) | .no x p => ev = fltV x p) ∧ a' = { tmps := #[.pointer (some ⟨R, 0, none⟩), .int .i64 (c : Int), .int .i64 (e : Int), .int .i64 dI, undef, undef, undef, undef, .pointer (some ⟨w.heap.size, 0, none⟩), .pointer (some ⟨w.heap.size + 1, 0, none⟩), .pointer (some ⟨B10, 0, none⟩), .nilIface, .pointer (some ⟨Bo, 0, none⟩), .pointer (some ⟨bx, 0, none⟩), ev, .tuple #[.agg #[.int .i64 (fr : Int), .int .i64 ((fr : Int) + (n : Int))], .nilIface], .pointer (some ⟨R, 0, none⟩), .int .i64 (c : Int), .int .i64 ((c : Int) - 192), .int .i64 (e : Int), .tuple #[.agg #[.int .i64 (fr : Int), .int .i64 ((fr : Int) + (n : Int))], .nilIface], .agg #[.int .i64 (fr : Int), .int .i64 ((fr : Int) + (n : Int))], .nilIface, .nilIface, .bool false, undef, undef, .pointer (some ⟨R, 0, none⟩), .pointer (some ⟨B10, 0, none⟩), .int .i64 (fr : Int), .pointer (some ⟨R, 0, none⟩), .pointer (some ⟨R, 1, none⟩), .agg #[.bool true, .string ⟨#[]⟩, .slice none 0 0], .pointer (some ⟨R, 0, none⟩), .pointer (some ⟨B10, 1, none⟩), .int .i64 ((fr : Int) + (n : Int)), .int .i64 dI, .int .i64 (dI + 1), .func (.func 95) #[] #[.pointer (some ⟨Bo + 1, 0, none⟩), .pointer (some ⟨Bo + 1 + 1, 0, none⟩), .pointer (some ⟨Bo + 1 + 1 + 1, 0, none⟩)], .agg #[u0, u1, u2], ev, undef, undef, undef, undef, undef, undef, undef, undef, undef, undef, undef, undef, undef], defers := [] })
    (fun k a' _ X Y row hs hg hr => by
      obtain ⟨acc, a, m, sv, bx, u0, u1, u2, ev, h1, ⟨h2, h3, h4, h5⟩, h6, e⟩ := hs
      refine ⟨acc, a, m, sv, bx, u0, u1, u2, ev, h1, ⟨h2.own' hg (fun r e => (hr r e).2), h3.own' hg (fun r e => (hr r e).2), h4, h5⟩, ?_, e⟩
      rcases hq : rdI s d (fr + n) a m with ⟨t, a', m'⟩ | ⟨x, p⟩
      · rw [hq] at h6; exact ⟨h6.1, h6.2.keepC (fun b o _ ho hc => keeps_own hg (fun r e => (hr r e).2) b o ho hc) (fun b hb _ => hb)⟩
      · rw [hq] at h6; exact h6) ?assign ?body ?done ?stop
  case assign =>
    intro ll k args A W K hll hkN hstA hsj hst hE hK
    obtain ⟨acc, sv, ⟨a1, m1, hrun⟩, hA2, hA3, _, _, _, hA7⟩ := hstA
    have hO : Has W Bo 29 #[.bool true, .string ⟨#[]⟩, sv] := hA2.sr hsj.1 (by omega)
    have hEE := hE acc a1 m1 hrun
    have hWsz : base ≤ W.heap.size := Nat.le_trans hA7 hsj.1.size
    have hblk : ∀ g, sv.ownBlock = some g → g < A.heap.size := fun g e => by
      obtain ⟨_, cs, h⟩ := hA3.block e
      exact (Array.getElem?_eq_some_iff.1 h).1
    have key : ∃ l b q n' cap ev, args = #[.agg #[.bool l, .string b, .slice q n' cap], ev] ∧ (match rdI s d (fr + n) a1 m1 with | .ok t _ _ => ev = .nilIface ∧ ItemS W (fun b => base ≤ b ∧ sv.ownBlock ≠ some b) t (.agg #[.bool l, .string b, .slice q n' cap]) | .no x p => ev = fltV x p) := by
      rcases hq : rdI s d (fr + n) a1 m1 with ⟨t, a', m'⟩ | ⟨x, p⟩
      · rw [hq] at hEE
        obtain ⟨v, rfl, hv⟩ := hEE
        obtain ⟨q, cap, rfl, _⟩ := hv.open
        exact ⟨_, _, _, _, _, _, rfl, rfl, hv.mono (fun b hb _ => ⟨Nat.le_trans hA7 hb, fun e => by have := hblk b e; omega⟩)⟩
      · rw [hq] at hEE
        exact ⟨_, _, _, _, _, _, hEE, rfl⟩
    obtain ⟨l, b, q, n', cap, ev, rfl, hm⟩ := key
    have HK := Lib.hid hK
    have HM := Lib.hid hm
    have HST := Lib.hid hst
    have HO := Lib.hid hO
    have HRUN := Lib.hid hrun
    have HBLK := Lib.hid hblk
    have HSZ := Lib.hid (And.intro hWsz hsj.1.size)
    clear hK hm hst hO hrun hblk hWsz hE hEE hA2 hA3 hA7 hsj
    have NX := Has.new W 29 #[.bool false, .string ⟨#[]⟩, .slice none 0 0]
    have x0 := NX.cell 0 _ rfl
    have x1 := NX.cell 1 _ rfl
    have x2 := NX.cell 2 _ rfl
    have f0 := NX.frozen 0
    have f1 := NX.frozen 1
    have f2 := NX.frozen 2
    replace NX := Lib.hid NX
    gi_wp2_with fail
    have hg := (Below.refl W.heap.size W).alloc (Nat.le_refl _) (.cells #[.bool l, .string b, .slice q n' cap] 29)
    refine HK.out _ _ ((KeepsOthers.alloc _ _).from _) (fun b hb => (hg.block b (by simp at hb; have := HSZ.out; have := hbB.out; omega))) ?_ ⟨acc, a1, m1, sv, W.heap.size, _, _, _, ev, HRUN.out, ⟨HO.out.later hg, Has.new _ _ _, HSZ.out.1, fun e => by have := HBLK.out _ e; have := HSZ.out.2; omega⟩, ?_, rfl⟩
    · obtain ⟨acc', sv', g1, g2, g3, g4, g5, g6, g7⟩ := HST.out
      exact ⟨acc', sv', g1, g2.later hg, g3.later hg, g4.later hg, g5.later hg, grown_then_below g6 hg, Nat.le_trans g7 hg.size⟩
    · have hm := HM.out
      rcases hq : rdI s d (fr + n) a1 m1 with ⟨t, a', m'⟩ | ⟨x, p⟩
      · rw [hq] at hm; exact ⟨hm.1, hm.2.later hg⟩
      · rw [hq] at hm; exact hm
  case body =>
    rintro ll k a' W hl hlo hkN hst ⟨acc, a1, m1, sv, bx, u0, u1, u2, ev, hrun, ⟨hO, hX, hbx, hxn0⟩, hm, rfl⟩
    obtain ⟨acc', sv', ⟨a1', m1', hrun'⟩, hO', hV, h8, h9, hG, hbW0⟩ := hst
    obtain ⟨rfl, _, _⟩ := runK_det hrun hrun'
    have hsv : sv = sv' := by
      have := hO.inj hO'
      injection this with this
      injection this with _ this
      injection this with _ this
      injection this
    subst hsv
    rcases hq : rdI s d (fr + n) a1 m1 with ⟨t, a', m'⟩ | ⟨x, p⟩
    · rw [hq] at hm
      obtain ⟨rfl, hkid⟩ := hm
      obtain ⟨l0, b0, q0, n0, cc0, rfl, rfl, rfl⟩ : ∃ l b q n c, u0 = .bool l ∧ u1 = .string b ∧ u2 = .slice q n c := by
        obtain ⟨q1, q2, hv, _⟩ := hkid.open
        injection hv with hv
        injection hv with hv
        injection hv with e0 hv
        injection hv with e1 hv
        injection hv with e2 hv
        exact ⟨_, _, _, _, _, e0, e1, e2⟩
      obtain ⟨sa, sc, rfl⟩ := hV.shape
      obtain ⟨vs, hvs, hown, hkids⟩ := hV
      obtain ⟨L, hL⟩ : ∃ L, acc.length = L := ⟨_, rfl⟩
      rw [hL] at hO hO' hown hxn0 hkids hkid hvs
      have hLL := Lib.hid (show L + 1 ≤ 1099511627777 by
        have := HL.out k a1 m1 acc hrun
        obtain ⟨_, a2, _, hh2, hh3⟩ := HN.out.1 k (Nat.zero_le _) hkN
        have := (runK_det hrun hh2).2.1
        have := HB.out
        omega)
      have rowblock : ∀ {y : World}, y.ownsRow base 29 3 (.slice sa L sc) L (flat3 vs) → ∀ {g : Nat}, Value.ownBlock (.slice sa L sc) = some g → base ≤ g := fun h g e => by
        rcases h.2 with ⟨h1, _⟩ | ⟨g1, cap, cur, e1, e2, _⟩
        · rw [h1] at e; cases e
        · rw [e1] at e; injection e with e; subst e; exact e2
      have rowcells : ∀ {y : World}, y.ownsRow base 29 3 (.slice sa L sc) L (flat3 vs) → ∀ {g : Nat}, Value.ownBlock (.slice sa L sc) = some g → base ≤ g ∧ ∃ cs, y.heap[g]? = some (.cells cs 29 (0, 0)) := fun h g e => by
        rcases h.2 with ⟨h1, _⟩ | ⟨g1, cap, cur, e1, e2, e3, _⟩
        · rw [h1] at e; cases e
        · rw [e1] at e; injection e with e; subst e; exact ⟨e2, cur, e3⟩
      have kX := Lib.hid hX
      have kO := Lib.hid hO
      have kV := Lib.hid hown
      have hbW := Lib.hid hbW0
      have hxn := Lib.hid hxn0
      have hrest := Lib.hid (And.intro hrun (And.intro hq (And.intro hvs (And.intro hkids (And.intro hkid (And.intro h8 (And.intro h9 (And.intro hG (And.intro hL hbx)))))))))
      clear hX hO hO' hown hbW0 hxn0 hrun hrun' hq hvs hkids hkid h8 h9 hG hL hbx hl hlo
      gi_wp2_with fail
      refine wpIn_region_ghost (free_round ll) [some (.pointer (some ⟨Bo, 2, none⟩)), some (.slice sa L sc), some (.agg #[.bool l0, .string b0, .slice q0 n0 cc0]), some (.int .i64 (L : Int)), none, none, none, none, some (.pointer (some ⟨Bo, 2, none⟩)), none]
        [[], [0], [], [0, 1], [], [0, 1, 4], [0, 1, 3, 4, 5], [0, 1, 2, 3, 4, 5, 6], [], [0, 1, 4, 5, 8]]
        (fun f g' y => (TwoB Bo (.slice sa L sc) W y ∧ Has y bx 29 #[.bool l0, .string b0, .slice q0 n0 cc0]) ∧ ((f 9 = false → Has y Bo 29 #[.bool true, .string ⟨#[]⟩, .slice sa L sc]) ∧ (f 9 = true → Has y Bo 29 #[.bool true, .string ⟨#[]⟩, g' 5])) ∧
          ((f 5 = false → y.ownsRow base 29 3 (.slice sa L sc) L (flat3 vs)) ∧ (f 4 = true → ∃ b4, g' 4 = .slice (some ⟨b4, 0, none⟩) 1 1 ∧ (f 5 = false → Has y b4 29 #[.bool false, .string ⟨#[]⟩, .slice none 0 0]))) ∧
          (f 5 = true → ∃ gb cap, g' 5 = .slice (some ⟨gb, 0, none⟩) (L + 1) cap ∧ (Value.ownBlock (.slice sa L sc) = some gb ∨ W.heap.size ≤ gb) ∧ (f 7 = false → y.ownsRow base 29 3 (g' 5) (L + 1) (flat3 vs ++ [.bool false, .string ⟨#[]⟩, .slice none 0 0])) ∧ (f 7 = true → y.ownsRow base 29 3 (g' 5) (L + 1) (flat3 vs ++ [.bool l0, .string b0, .slice q0 n0 cc0])) ∧ (f 6 = true → g' 6 = .pointer (some ⟨gb, L * 3, none⟩))))
        hmx (by kernel_rfl) (by kernel_rfl) ?_ ?_ ?_ ?_
      · rintro f g' wa wb ⟨⟨k1, k2⟩, ⟨k3, k4⟩, ⟨k5, k6⟩, k7⟩ hb
        refine ⟨⟨k1.below hb, k2.later hb⟩, ⟨fun h => (k3 h).later hb, fun h => (k4 h).later hb⟩, ⟨fun h => owns_below (k5 h) hb, fun h => ?_⟩, fun h => ?_⟩
        · obtain ⟨b4, e1, e2⟩ := k6 h
          exact ⟨b4, e1, fun h' => (e2 h').later hb⟩
        · obtain ⟨gb, cap, e1, e2, e3, e4, e5⟩ := k7 h
          exact ⟨gb, cap, e1, e2, fun h' => owns_below (e3 h') hb, fun h' => owns_below (e4 h') hb, e5⟩
      · intro f f' g1 g1' wa h
        have h4 := h 4 rfl
        have h5 := h 5 rfl
        have h6 := h 6 rfl
        have h7 := h 7 rfl
        have h9 := h 9 rfl
        rw [h4.1, h4.2, h5.1, h5.2, h6.1, h6.2, h7.1, h9.1]
        exact id
      · exact ⟨⟨(TwoB.refl _ _ _).below (Below.refl _ _).drew, kX.out⟩, ⟨fun _ => kO.out, fun h => by cases h⟩, ⟨fun _ => owns_below kV.out (Below.refl _ _).drew, fun h => by cases h⟩, fun h => by cases h⟩
      rintro f g' y ⟨⟨k1, k2⟩, ⟨k3, k4⟩, ⟨k5, k6⟩, k7⟩ Dn
      have c0 := k2.cell 0 (.bool l0) rfl
      have c1 := k2.cell 1 (.string b0) rfl
      have c2 := k2.cell 2 (.slice q0 n0 cc0) rfl
      have hysz : W.heap.size ≤ y.heap.size := k1.1.2.2.2
      replace hysz := Lib.hid hysz
      replace k1 := Lib.hid k1
      replace k2 := Lib.hid k2
      replace k3 := Lib.hid k3
      replace k4 := Lib.hid k4
      replace k5 := Lib.hid k5
      replace k6 := Lib.hid k6
      replace k7 := Lib.hid k7
      refine GW.known _ rfl (fun hd' hf => ?_) ?_
      · go_wp2
        exact ⟨rfl, rfl, Below.refl _ _⟩
      simp only [Act.put, List.setIfInBounds_toArray, List.set_cons_succ, List.set_cons_zero]
      refine GW.known _ rfl (fun hd' hf => ?_) ?_
      · have hf9 : f 9 = false := by
          rcases h : f 9 with _ | _
          · rfl
          · have := Dn 9 h 1 (by decide); rw [hf] at this; cases this
        have o2 := (k3.out hf9).cell 2 (.slice sa L sc) rfl
        go_wp2
        exact ⟨rfl, rfl, Below.refl _ _⟩
      simp only [Act.put, List.setIfInBounds_toArray, List.set_cons_succ, List.set_cons_zero]
      refine GW.known _ rfl (fun hd' hf => ?_) ?_
      · go_wp2
        exact ⟨rfl, rfl, Below.refl _ _⟩
      simp only [Act.put, List.setIfInBounds_toArray, List.set_cons_succ, List.set_cons_zero]
      refine GW.known _ rfl (fun hd' hf => ?_) ?_
      · go_wp2
        exact ⟨rfl, rfl, Below.refl _ _⟩
      simp only [Act.put, List.setIfInBounds_toArray, List.set_cons_succ, List.set_cons_zero]
      refine GW.open rfl (fun hd' hf => ?_) ?_
      · have hf5 : f 5 = false := by
          rcases h : f 5 with _ | _
          · rfl
          · have := Dn 5 h 4 (by decide); rw [hf] at this; cases this
        have N4 := Has.new y 29 #[.bool false, .string ⟨#[]⟩, .slice none 0 0]
        have q4 := (Below.refl y.heap.size y).alloc (Nat.le_refl _) (.cells #[.bool false, .string ⟨#[]⟩, .slice none 0 0] 29)
        replace N4 := Lib.hid N4
        replace q4 := Lib.hid q4
        have hf9 : f 9 = false := by
          rcases h : f 9 with _ | _
          · rfl
          · have := Dn 9 h 4 (by decide); rw [hf] at this; cases this
        have hfs := Lib.hid (And.intro hf5 hf9)
        clear hf5 hf9 hf
        go_wp2
        exact ⟨rfl, ⟨⟨k1.out.below q4.out, k2.out.later q4.out⟩, ⟨fun _ => (k3.out hfs.out.2).later q4.out, fun h => absurd ((show f 9 = true from h).symm.trans hfs.out.2) (by decide)⟩, ⟨fun _ => owns_below (k5.out hfs.out.1) q4.out, fun _ => ⟨y.heap.size, rfl, fun _ => N4.out⟩⟩, fun h => absurd ((show f 5 = true from h).symm.trans hfs.out.1) (by decide)⟩⟩
      simp only [Act.put, List.setIfInBounds_toArray, List.set_cons_succ, List.set_cons_zero]
      refine GW.open rfl (fun hd' hf => ?_) ?_
      · obtain ⟨b4, e4, hb4⟩ := k6.out (hd' 4 (by decide))
        have hB4 := hb4 hf
        have hV := k5.out hf
        obtain ⟨i, hi, hz, hsize, hby⟩ := infoI_of
        have hf9 : f 9 = false := by
          rcases h : f 9 with _ | _
          · rfl
          · have := Dn 9 h 5 (by decide); rw [hf] at this; cases this
        have hf7 : f 7 = false := by
          rcases h : f 7 with _ | _
          · rfl
          · have := Dn 7 h 5 (by decide); rw [hf] at this; cases this
        have hf6 : f 6 = false := by
          rcases h : f 6 with _ | _
          · rfl
          · have := Dn 6 h 5 (by decide); rw [hf] at this; cases this
        refine wpList_append_src y rfl (.tmp 46) (.tmp 49) 27 27 rfl base 29 i _ 3 48 Tryz.underlying27 hi hz hsize hby rfl (by decide) (.slice sa L sc) L (flat3 vs) rfl hV (.slice (some ⟨b4, 0, none⟩) 1 1) 1 (by decide) [.bool false, .string ⟨#[]⟩, .slice none 0 0] (by simpa [Act.eval] using e4) (by
          rw [hsize]
          refine Src.ofSlice y Tryz.underlying27 ⟨b4, 0, none⟩ 1 1 _ rfl (fun j u hj => ?_) (by simp [Value.oneCell'])
          have ha : (⟨b4, 0, none⟩ : Addr).add j = ⟨b4, j, none⟩ := by unfold Addr.add; split <;> simp_all
          rw [ha]
          exact hB4.cell j u (by simpa using hj)) (by have := hLL.out; omega) (by have := hLL.out; simp only [maxLen]; omega) (Nat.le_trans hbW.out hysz.out) ?_
        intro v' w' j1 j2 j3
        obtain ⟨gb, cap, ev'⟩ : ∃ gb cap, v' = .slice (some ⟨gb, 0, none⟩) (L + 1) cap := by
          rcases j1.2 with ⟨_, h0⟩ | ⟨g, cap, cur, e, _⟩
          · omega
          · exact ⟨g, cap, e⟩
        have hnb : Value.ownBlock (.slice sa L sc) = some gb ∨ W.heap.size ≤ gb := by
          have hob : v'.ownBlock = some gb := by rw [ev']; rfl
          rcases j3 with h | h
          · exact .inl (h.symm.trans hob)
          · rw [hob] at h; injection h with h; exact .inr (by have := hysz.out; omega)
        have hxb : Has w' bx 29 #[.bool l0, .string b0, .slice q0 n0 cc0] := (j2.block bx k2.out.lt (fun e => hxn.out e.symm)).trans k2.out
        have hob : Has w' Bo 29 #[.bool true, .string ⟨#[]⟩, .slice sa L sc] := (j2.block Bo (k3.out hf9).lt (fun e => by
          have := (rowblock hV e.symm); have := hbB.out; omega)).trans (k3.out hf9)
        exact ⟨rfl, ⟨⟨k1.out.row j2 (.inl rfl), hxb⟩, ⟨fun _ => hob, fun h => absurd ((show f 9 = true from h).symm.trans hf9) (by decide)⟩, ⟨fun h => absurd (show true = false from h) (by decide), fun _ => ⟨b4, e4, fun h => absurd (show true = false from h) (by decide)⟩⟩, fun _ => ⟨gb, cap, ev', hnb, fun _ => j1, fun h => absurd ((show f 7 = true from h).symm.trans hf7) (by decide), fun h => absurd ((show f 6 = true from h).symm.trans hf6) (by decide)⟩⟩⟩
      simp only [Act.put, List.setIfInBounds_toArray, List.set_cons_succ, List.set_cons_zero]
      refine GW.open rfl (fun hd' hf => ?_) ?_
      · obtain ⟨gb, cap, e5, e6, e7, e8, e9⟩ := k7.out (hd' 5 (by decide))
        have hf7 : f 7 = false := by
          rcases h : f 7 with _ | _
          · rfl
          · have := Dn 7 h 6 (by decide); rw [hf] at this; cases this
        have f5 := hd' 5 (by decide)
        have e10 := Lib.hid (e7 hf7)
        have hfs := Lib.hid (And.intro f5 hf7)
        have e5H := Lib.hid e5
        have e6H := Lib.hid e6
        clear f5 hf7 hf e6 e7 e8 e9
        rw [show g' (0 + 1 + 1 + 1 + 1 + 1) = .slice (some ⟨gb, 0, none⟩) (L + 1) cap from e5]
        clear e5
        have hLI : (L : Int) < ((L + 1 : Nat) : Int) := by omega
        have hLI0 : (0 : Int) ≤ (L : Int) := by omega
        have hLn : L < L + 1 := by omega
        go_wp2
        exact ⟨rfl, ⟨⟨k1.out, k2.out⟩, ⟨fun h => k3.out h, fun h => k4.out h⟩, ⟨fun h => k5.out h, fun h => k6.out h⟩, fun _ => ⟨gb, cap, e5H.out, e6H.out, fun _ => e10.out, fun h => absurd ((show f 7 = true from h).symm.trans hfs.out.2) (by decide), fun _ => rfl⟩⟩⟩
      simp only [Act.put, List.setIfInBounds_toArray, List.set_cons_succ, List.set_cons_zero]
      refine GW.open rfl (fun hd' hf => ?_) ?_
      · obtain ⟨gb, cap, e5, e6, e7, e8, e9⟩ := k7.out (hd' 5 (by decide))
        have e10 := e9 (hd' 6 (by decide))
        have hown := e7 hf
        have hob : (g' 5).ownBlock = some gb := by rw [e5]; rfl
        have hvl : (flat3 vs).length = L * 3 := by rw [flat3_length, hrest.out.2.2.1]
        obtain ⟨hrow, cs, hcs, hsz⟩ := owns_set3 hown hvl hob (.bool l0) (.string b0) (.slice q0 n0 cc0)
        have hgbb : base ≤ gb := by
          rcases hown.2 with ⟨h1, _⟩ | ⟨g1, _, _, e1, e2, _⟩
          · rw [e5] at h1; cases h1
          · rw [e1] at hob; injection hob with hob; subst hob; exact e2
        have hgx : bx ≠ gb := fun e => by
          rcases e6 with h | h
          · exact hxn.out (by rw [e]; exact h)
          · have := kX.out.lt; omega
        have hgo : Bo ≠ gb := by have := hbB.out; omega
        have r0 := hcs.cell (L * 3) _ (Array.getElem?_eq_getElem (show L * 3 < cs.size by omega))
        have r1 := hcs.cell (L * 3 + 1) _ (Array.getElem?_eq_getElem (show L * 3 + 1 < cs.size by omega))
        have r2 := hcs.cell (L * 3 + 2) _ (Array.getElem?_eq_getElem (show L * 3 + 2 < cs.size by omega))
        have z0 := hcs.frozen (L * 3)
        have z1 := hcs.frozen (L * 3 + 1)
        have z2 := hcs.frozen (L * 3 + 2)
        generalize cs[L * 3] = rv0 at *
        generalize cs[L * 3 + 1] = rv1 at *
        generalize cs[L * 3 + 2] = rv2 at *
        have hfs := Lib.hid (And.intro (hd' 5 (by decide)) hf)
        have hE := Lib.hid (And.intro hrow (And.intro e5 (And.intro e6 (And.intro e10 (And.intro hgx hgo)))))
        rw [show g' (0 + 1 + 1 + 1 + 1 + 1 + 1) = .pointer (some ⟨gb, L * 3, none⟩) from e10]
        clear e5 e6 e7 e8 e9 e10 hown hob hrow hcs hf hd' hgx hgo hvl hsz hgbb
        go_wp2
        exact ⟨rfl, ⟨⟨((k1.out.set (p := ⟨gb, L * 3, none⟩) (.inr hE.out.2.2.1) (.bool l0)).set (p := ⟨gb, L * 3 + 1, none⟩) (.inr hE.out.2.2.1) (.string b0)).set (p := ⟨gb, L * 3 + 2, none⟩) (.inr hE.out.2.2.1) (.slice q0 n0 cc0), ((k2.out.other (p := ⟨gb, L * 3, none⟩) hE.out.2.2.2.2.1 (.bool l0)).other (p := ⟨gb, L * 3 + 1, none⟩) hE.out.2.2.2.2.1 (.string b0)).other (p := ⟨gb, L * 3 + 2, none⟩) hE.out.2.2.2.2.1 (.slice q0 n0 cc0)⟩, ⟨fun h => (((k3.out h).other (p := ⟨gb, L * 3, none⟩) hE.out.2.2.2.2.2 (.bool l0)).other (p := ⟨gb, L * 3 + 1, none⟩) hE.out.2.2.2.2.2 (.string b0)).other (p := ⟨gb, L * 3 + 2, none⟩) hE.out.2.2.2.2.2 (.slice q0 n0 cc0), fun h => (((k4.out h).other (p := ⟨gb, L * 3, none⟩) hE.out.2.2.2.2.2 (.bool l0)).other (p := ⟨gb, L * 3 + 1, none⟩) hE.out.2.2.2.2.2 (.string b0)).other (p := ⟨gb, L * 3 + 2, none⟩) hE.out.2.2.2.2.2 (.slice q0 n0 cc0)⟩, ⟨fun h => absurd ((show f 5 = false from h).symm.trans hfs.out.1) (by decide), fun h => by
          obtain ⟨b4, e1, _⟩ := k6.out h
          exact ⟨b4, e1, fun h' => absurd ((show f 5 = false from h').symm.trans hfs.out.1) (by decide)⟩⟩, fun _ => ⟨gb, cap, hE.out.2.1, hE.out.2.2.1, fun h => absurd (show true = false from h) (by decide), fun _ => hE.out.1, fun _ => hE.out.2.2.2.1⟩⟩⟩
      simp only [Act.put, List.setIfInBounds_toArray, List.set_cons_succ, List.set_cons_zero]
      refine GW.known _ rfl (fun hd' hf => ?_) ?_
      · go_wp2
        exact ⟨rfl, rfl, Below.refl _ _⟩
      simp only [Act.put, List.setIfInBounds_toArray, List.set_cons_succ, List.set_cons_zero]
      refine GW.open rfl (fun hd' hf => ?_) ?_
      · obtain ⟨gb, cap, e5, e6, e7, e8, e9⟩ := k7.out (hd' 5 (by decide))
        have hOo := k3.out hf
        have r2 := hOo.cell 2 (.slice sa L sc) rfl
        have z2 := hOo.frozen 2
        have hgbo : ∀ b, base ≤ b → b ≠ Bo := fun b hb => by have := hbB.out; omega
        have hoc : ∀ {xs : List Value}, y.ownsRow base 29 3 (g' 5) (L + 1) xs → (y.setCell ⟨Bo, 2, none⟩ (g' 5)).ownsRow base 29 3 (g' 5) (L + 1) xs := fun h => owns_cells h (fun b o hb ho _ => (Below.heap_setCell y ⟨Bo, 2, none⟩ (g' 5) b (hgbo b hb)).trans ho)
        have hE := Lib.hid (show (y.setCell ⟨Bo, 2, none⟩ (.slice (some ⟨gb, 0, none⟩) (L + 1) cap)) = (y.setCell ⟨Bo, 2, none⟩ (.slice (some ⟨gb, 0, none⟩) (L + 1) cap)) ∧ (f 7 = false → (y.setCell ⟨Bo, 2, none⟩ (.slice (some ⟨gb, 0, none⟩) (L + 1) cap)).ownsRow base 29 3 (g' 5) (L + 1) (flat3 vs ++ [.bool false, .string ⟨#[]⟩, .slice none 0 0])) ∧ (f 7 = true → (y.setCell ⟨Bo, 2, none⟩ (.slice (some ⟨gb, 0, none⟩) (L + 1) cap)).ownsRow base 29 3 (g' 5) (L + 1) (flat3 vs ++ [.bool l0, .string b0, .slice q0 n0 cc0])) ∧ (f 6 = true → g' 6 = .pointer (some ⟨gb, L * 3, none⟩)) ∧ g' 5 = .slice (some ⟨gb, 0, none⟩) (L + 1) cap from ⟨rfl, fun h => by have := hoc (e7 h); rw [e5] at this ⊢; exact this, fun h => by have := hoc (e8 h); rw [e5] at this ⊢; exact this, e9, e5⟩)
        have hSO := Lib.hid (hOo.set 2 (.slice (some ⟨gb, 0, none⟩) (L + 1) cap))
        have hxo := Lib.hid (show bx ≠ Bo from hgbo bx hrest.out.2.2.2.2.2.2.2.2.2)
        have hfs := Lib.hid (And.intro (hd' 5 (by decide)) e6)
        rw [show g' (0 + 1 + 1 + 1 + 1 + 1) = .slice (some ⟨gb, 0, none⟩) (L + 1) cap from e5]
        clear e5 e6 e7 e8 e9 hOo hoc hf hd' hgbo
        go_wp2
        exact ⟨rfl, ⟨⟨k1.out.set (p := ⟨Bo, 2, none⟩) (.inl rfl) _, k2.out.other (p := ⟨Bo, 2, none⟩) hxo.out _⟩, ⟨fun h => absurd (show true = false from h) (by decide), fun _ => by
          show Has _ Bo _ #[.bool true, .string ⟨#[]⟩, g' 5]
          rw [hE.out.2.2.2.2]; exact hSO.out⟩, ⟨fun h => absurd ((show f 5 = false from h).symm.trans hfs.out.1) (by decide), fun h => by
          obtain ⟨b4, e1, _⟩ := k6.out h
          exact ⟨b4, e1, fun h' => absurd ((show f 5 = false from h').symm.trans hfs.out.1) (by decide)⟩⟩, fun _ => ⟨gb, ⟨cap, hE.out.2.2.2.2⟩, hfs.out.2, hE.out.2.1, hE.out.2.2.1, hE.out.2.2.2.1⟩⟩⟩
      simp only [Act.put, List.setIfInBounds_toArray, List.set_cons_succ, List.set_cons_zero]
      refine GW.nil (fun hall => ?_)
      obtain ⟨gb, cap, e5, e6, e7, e8, e9⟩ := k7.out (hall 5 (by decide))
      have hown := e8 (hall 7 (by decide))
      have hO2 := k4.out (hall 9 (by decide))
      rw [e5] at hown hO2
      obtain ⟨hrun, hq, hvs, hkids, hkid, h8, h9, hG, hL, hbx⟩ := hrest.out
      have hT := k1.out
      have hgn : ∀ b, b < W.heap.size → Value.ownBlock (.slice sa L sc) ≠ some b → b ≠ gb := fun b h1 h2 e => by
        rcases e6 with h | h
        · exact h2 (by rw [e]; exact h)
        · omega
      have hkeepS : ∀ {t' : It} {v' : Value}, ItemS W (fun b => base ≤ b ∧ Value.ownBlock (.slice sa L sc) ≠ some b) t' v' → ItemS y (fun b => base ≤ b ∧ Value.ownBlock (.slice (some ⟨gb, 0, none⟩) (L + 1) cap) ≠ some b) t' v' := fun h =>
        h.keep (fun b hb hl => hT.2 b hl (by have := hbB.out; omega) hb.2) (fun b hb hl => ⟨hb.1, fun e => by injection e with e; exact hgn b hl hb.2 e.symm⟩)
      have hRow : RowK y base (.slice (some ⟨gb, 0, none⟩) (L + 1) cap) (acc ++ [t]) := by
        refine ⟨vs ++ [(.bool l0, .string b0, .slice q0 n0 cc0)], by simp [hvs, hL], ?_, fun j k' v hj hv => ?_⟩
        · rw [flat3_append, show (acc ++ [t]).length = L + 1 by simp [hL]]
          exact hown
        · by_cases hjl : j < L
          · rw [List.getElem?_append_left (by omega)] at hj hv
            exact hkeepS (hkids j k' v hj hv)
          · have hj2 : j = L := by
              have := (List.getElem?_eq_some_iff.1 hj).1
              simp [hL] at this
              omega
            subst hj2
            rw [List.getElem?_append_right (by omega)] at hj hv
            simp [hL] at hj
            simp [hvs] at hv
            subst hj hv
            exact hkeepS hkid
      have hsame : ∀ b, b < W.heap.size → b ≠ Bo → b < base → y.heap[b]? = W.heap[b]? := fun b h1 h2 h3 => hT.2 b h1 h2 (fun e => by
        have := rowblock kV.out e; omega)
      have hres : roundN W6.heap.size (KeepsAt [R, Bo + 1, Bo + 1 + 1, Bo + 1 + 1 + 1]) (fun k W => LstSt s R d (fr + n) fr m0 w w.heap.size (w.heap.size + 1) Bo base k W) (fun c' k W => c' = Code.ret ∧ LstNo s R d (fr + n) fr m0 w w.heap.size (w.heap.size + 1) k W) k W .normal { tmps := #[], defers := [] } y := by
        have hb4 := hbB.out
        have hbw := hbW.out
        refine ⟨⟨hT.1.2.2.2, fun b o hb ho hc => (hT.2 b (Array.getElem?_eq_some_iff.1 ho).1 (by have := hs6.out; omega) (fun e => ?_)).trans ho⟩, fun b hb => hsame b (by simp at hb; omega) (by simp at hb; omega) (by simp at hb; omega), acc ++ [t], _, ⟨a', m', runK_ok hrun hq⟩, hO2, hRow, (hsame _ h8.lt (by omega) (by omega)).trans h8, (hsame _ h9.lt (by omega) (by omega)).trans h9, ?_, Nat.le_trans hbw hT.1.2.2.2⟩
        · obtain ⟨_, cs, hcs⟩ := rowcells kV.out e
          rw [ho] at hcs
          cases hcs
          cases hc
        · exact ⟨hT.1.1.trans hG.os, hT.1.2.1.trans hG.tape, hT.1.2.2.1.trans hG.output, Nat.le_trans hG.size hT.1.2.2.2, fun b hb hne => (hsame b (by omega) (by omega) (by omega)).trans (hG.block b hb hne)⟩
      have HRES := Lib.hid hres
      clear hres hRow hkeepS hsame hgn hown hO2 e5 e6 e7 e8 e9 hT hrun hq hvs hkids hkid h8 h9 hG hL hbx k1 k2 k3 k4 k5 k6 k7 c0 c1 c2 hall Dn
      generalize g' 4 = g4 at *
      generalize g' 5 = g5 at *
      generalize g' 6 = g6 at *
      generalize g' 7 = g7 at *
      generalize g' 9 = g9 at *
      exact HRES.out
    · rw [hq] at hm
      obtain rfl : ev = fltV x p := hm
      have hb4 := hbB.out
      have f0 := h8.frozen 0
      have f1 := h8.frozen 1
      have f2 := h8.frozen 2
      have x0 := h8.cell 0 _ rfl
      have x1 := h8.cell 1 _ rfl
      have x2 := h8.cell 2 _ rfl
      have f3 := h9.frozen 0
      have x3 := h9.cell 0 _ rfl
      obtain ⟨Y, hY⟩ : ∃ Y, (((W.setCell ⟨w.heap.size, 0, none⟩ (.bool false)).setCell ⟨w.heap.size, 1, none⟩ (.string ⟨#[]⟩)).setCell ⟨w.heap.size, 2, none⟩ (.slice none 0 0)).setCell ⟨w.heap.size + 1, 0, none⟩ (fltV x p) = Y := ⟨_, rfl⟩
      have hoth : ∀ b, b ≠ w.heap.size → b ≠ w.heap.size + 1 → Y.heap[b]? = W.heap[b]? := fun b g0 g1 => by
        rw [← hY]
        exact (Below.heap_setCell _ _ _ b (by exact g1)).trans ((Below.heap_setCell _ _ _ b (by exact g0)).trans ((Below.heap_setCell _ _ _ b (by exact g0)).trans (Below.heap_setCell _ _ _ b (by exact g0))))
      have S8 : Has Y w.heap.size 29 #[.bool false, .string ⟨#[]⟩, .slice none 0 0] := by rw [← hY]; exact (((h8.set 0 (.bool false)).set 1 (.string ⟨#[]⟩)).set 2 (.slice none 0 0)).other (p := ⟨w.heap.size + 1, 0, none⟩) (by simp) (fltV x p)
      have S9 : Has Y (w.heap.size + 1) 65 #[fltV x p] := by rw [← hY]; exact (((h9.other (p := ⟨w.heap.size, 0, none⟩) (by simp) (.bool false)).other (p := ⟨w.heap.size, 1, none⟩) (by simp) (.string ⟨#[]⟩)).other (p := ⟨w.heap.size, 2, none⟩) (by simp) (.slice none 0 0)).set 0 (fltV x p)
      have SG : w.grownBy Y (some R) := by rw [← hY]; exact grown_set (grown_set (grown_set (grown_set hG (p := ⟨w.heap.size, 0, none⟩) (.inr (Nat.le_refl _)) (.bool false)) (p := ⟨w.heap.size, 1, none⟩) (.inr (Nat.le_refl _)) (.string ⟨#[]⟩)) (p := ⟨w.heap.size, 2, none⟩) (.inr (Nat.le_refl _)) (.slice none 0 0)) (p := ⟨w.heap.size + 1, 0, none⟩) (.inr (by simp)) (fltV x p)
      have SK : KeepsFrom W6.heap.size W Y := by rw [← hY]; exact ((((KeepsOthers.setCell _ _ _).from _).trans ((KeepsOthers.setCell _ _ _).from _)).trans ((KeepsOthers.setCell _ _ _).from _)).trans ((KeepsOthers.setCell _ _ _).from _)
      have HRES := Lib.hid (show roundN W6.heap.size (KeepsAt [R, Bo + 1, Bo + 1 + 1, Bo + 1 + 1 + 1]) (fun k W => LstSt s R d (fr + n) fr m0 w w.heap.size (w.heap.size + 1) Bo base k W) (fun c' k W => c' = Code.ret ∧ LstNo s R d (fr + n) fr m0 w w.heap.size (w.heap.size + 1) k W) k W .ret { tmps := #[], defers := [] } Y from ⟨SK, rfl, x, p, runK_no hrun hq, S8, S9, SG⟩)
      replace hY := Lib.hid hY
      clear hoth S8 S9 SG SK h8 h9 hG hV hO hO' hX hrun hrun' hq hbx hxn0 hbW0 hl hlo
      gi_wp2_with fail
      rw [hY.out]
      exact HRES.out
  case done =>
    rintro D W hD hst hfn hK
    obtain ⟨acc, sv, ⟨a', m', hrun⟩, hO, hV, h8, h9, hG, hbW⟩ := hst
    have hRf := hfn acc a' m' hrun
    have hrr : r = .ok (.mk true ⟨#[]⟩ acc) a' m' := by rw [HR.out, hrun]
    have hb4 := hbB.out
    have hDn : w.heap.size < D ∧ w.heap.size + 1 < D ∧ R < D ∧ Bo < D := by have := hs6.out; omega
    obtain ⟨sa, sc, rfl⟩ := hV.shape
    have hal : acc.length ≤ 1099511627776 := by
      have := HL.out N a' m' acc hrun
      have hgo : ∀ j acc a m, runK (rdI s d (fr + n)) fr m0 j = .ok acc a m → a ≤ fr + n := by
        intro j
        induction j with
        | zero => intro acc a m h; rw [runK] at h; injection h with h1 h2 h3; omega
        | succ j ih =>
          intro acc a m h
          rw [runK] at h
          rcases h1 : runK (rdI s d (fr + n)) fr m0 j with ⟨acc1, a1, m1⟩ | ⟨x, p⟩
          · rw [h1] at h
            simp only at h
            rcases h2 : rdI s d (fr + n) a1 m1 with ⟨t, a2, m2⟩ | ⟨x, p⟩
            · rw [h2] at h
              injection h with e1 e2 e3
              subst e2
              exact (rdItem_ok 5000 s.data.toList d (fr + n) a1 m1 t a2 m2 (by rw [← size_list]; have := HB.out; omega) h2).2.1
            · rw [h2] at h; cases h
          · rw [h1] at h; cases h
      have := hgo N acc a' m' hrun
      have := HB.out
      omega
    obtain ⟨L, hL⟩ : ∃ L, acc.length = L := ⟨_, rfl⟩
    have o0 := hO.cell 0 (.bool true) rfl
    have o1 := hO.cell 1 (.string ⟨#[]⟩) rfl
    have o2 := hO.cell 2 _ rfl
    have f0 := h8.frozen 0
    have f1 := h8.frozen 1
    have f2 := h8.frozen 2
    have x0 := h8.cell 0 _ rfl
    have x1 := h8.cell 1 _ rfl
    have x2 := h8.cell 2 _ rfl
    have f3 := h9.frozen 0
    have x3 := h9.cell 0 _ rfl
    obtain ⟨Y, hY⟩ : ∃ Y, (((W.setCell ⟨w.heap.size, 0, none⟩ (.bool true)).setCell ⟨w.heap.size, 1, none⟩ (.string ⟨#[]⟩)).setCell ⟨w.heap.size, 2, none⟩ (.slice sa acc.length sc)).setCell ⟨w.heap.size + 1, 0, none⟩ .nilIface = Y := ⟨_, rfl⟩
    have hoth : ∀ b, b ≠ w.heap.size → b ≠ w.heap.size + 1 → Y.heap[b]? = W.heap[b]? := fun b g0 g1 => by
      rw [← hY]
      exact (Below.heap_setCell _ _ _ b (by exact g1)).trans ((Below.heap_setCell _ _ _ b (by exact g0)).trans ((Below.heap_setCell _ _ _ b (by exact g0)).trans (Below.heap_setCell _ _ _ b (by exact g0))))
    have S8 : Has Y w.heap.size 29 #[.bool true, .string ⟨#[]⟩, .slice sa acc.length sc] := by rw [← hY]; exact (((h8.set 0 (.bool true)).set 1 (.string ⟨#[]⟩)).set 2 (.slice sa acc.length sc)).other (p := ⟨w.heap.size + 1, 0, none⟩) (by simp) .nilIface
    have S9 : Has Y (w.heap.size + 1) 65 #[.nilIface] := by rw [← hY]; exact (((h9.other (p := ⟨w.heap.size, 0, none⟩) (by simp) (.bool true)).other (p := ⟨w.heap.size, 1, none⟩) (by simp) (.string ⟨#[]⟩)).other (p := ⟨w.heap.size, 2, none⟩) (by simp) (.slice sa acc.length sc)).set 0 .nilIface
    have SG : w.grownBy Y (some R) := by rw [← hY]; exact grown_set (grown_set (grown_set (grown_set hG (p := ⟨w.heap.size, 0, none⟩) (.inr (Nat.le_refl _)) (.bool true)) (p := ⟨w.heap.size, 1, none⟩) (.inr (Nat.le_refl _)) (.string ⟨#[]⟩)) (p := ⟨w.heap.size, 2, none⟩) (.inr (Nat.le_refl _)) (.slice sa acc.length sc)) (p := ⟨w.heap.size + 1, 0, none⟩) (.inr (by simp)) .nilIface
    have SK : Y.heap[D]? = some (.deferred (some [])) := (hoth D (by omega) (by omega)).trans hK
    have SR' : Has Y R 100 (rdC s a' m') := (hoth R (by omega) (by omega)).trans hRf
    have SV : RowK (Y.putObj D (.deferred none)) base (.slice sa acc.length sc) acc := hV.keep (fun b o hb ho hc => (World.putObj_heap_other (fun e => by
      subst e
      rw [hK] at ho
      cases ho
      cases hc)).trans ((hoth b (by omega) (by omega)).trans ho))
    have SI := (SV.item hal).mono (T := fun b => w.heap.size ≤ b) (fun b hb _ => by omega)
    have HE := Lib.hid (show ItP s R w r (.returned (.tuple #[.agg #[.bool true, .string ⟨#[]⟩, .slice sa acc.length sc], .nilIface])) (Y.putObj D (.deferred none)) by
      rw [hrr]
      exact ⟨_, rfl, SI, (World.putObj_heap_other (by omega)).trans SR', grown_putObj SG (by omega) _⟩)
    have z0 := Lib.hid (show (Y.putObj D (.deferred none)).cell? ⟨w.heap.size, 0, none⟩ = some (.bool true) from Has.cell (show Has (Y.putObj D (.deferred none)) _ _ _ from (World.putObj_heap_other (by omega)).trans S8) 0 _ rfl)
    have z1 := Lib.hid (show (Y.putObj D (.deferred none)).cell? ⟨w.heap.size, 1, none⟩ = some (.string ⟨#[]⟩) from Has.cell (show Has (Y.putObj D (.deferred none)) _ _ _ from (World.putObj_heap_other (by omega)).trans S8) 1 _ rfl)
    have z2 := Lib.hid (show (Y.putObj D (.deferred none)).cell? ⟨w.heap.size, 2, none⟩ = some (.slice sa acc.length sc) from Has.cell (show Has (Y.putObj D (.deferred none)) _ _ _ from (World.putObj_heap_other (by omega)).trans S8) 2 _ rfl)
    have z3 := Lib.hid (show (Y.putObj D (.deferred none)).cell? ⟨w.heap.size + 1, 0, none⟩ = some .nilIface from Has.cell (show Has (Y.putObj D (.deferred none)) _ _ _ from (World.putObj_heap_other (by omega)).trans S9) 0 _ rfl)
    replace SK := Lib.hid SK
    replace hY := Lib.hid hY
    replace hL := Lib.hid hL
    have hO8 := Lib.hid (show Bo ≠ w.heap.size by omega)
    clear hoth S8 S9 SG SR' SV SI h8 h9 hG hV hO hrun hRf hrr hal hK hfn hbW
    generalize acc.length = L' at *
    gi_wp2_with fail
    rw [hY.out]
    refine ⟨by simp, .inl ⟨_, _, rfl, run_takeDeferred SK.out, ?_⟩⟩
    replace z0 := z0.out
    replace z1 := z1.out
    replace z2 := z2.out
    replace z3 := z3.out
    exact ⟨.tuple #[.agg #[.bool true, .string ⟨#[]⟩, .slice sa L' sc], .nilIface], by simp [results, Tryz.results75, go_sem, z0, z1, z2, z3], HE.out⟩
  case stop =>
    rintro D c' k W hD hk ⟨rfl, x, p, hrun, h8, h9, hG⟩ hK
    have hkN : k + 1 = N := by
      rcases Nat.lt_or_ge (k + 1) N with h | h
      · obtain ⟨acc2, a2, m2, h2, _⟩ := HN.out.1 (k + 1) (Nat.zero_le _) h
        rw [hrun] at h2; cases h2
      · omega
    have hrr : r = .no x p := by rw [HR.out, ← hkN, hrun]
    have hDn : w.heap.size < D ∧ w.heap.size + 1 < D ∧ R < D := by have := hs6.out; omega
    have HE := Lib.hid (show ItP s R w r (.returned (.tuple #[.agg #[.bool false, .string ⟨#[]⟩, .slice none 0 0], fltV x p])) (W.putObj D (.deferred none)) by
      rw [hrr]
      exact ⟨rfl, grown_putObj hG (by omega) _⟩)
    have z0 := Lib.hid (show (W.putObj D (.deferred none)).cell? ⟨w.heap.size, 0, none⟩ = some (.bool false) from Has.cell (show Has (W.putObj D (.deferred none)) _ _ _ from (World.putObj_heap_other (by omega)).trans h8) 0 _ rfl)
    have z1 := Lib.hid (show (W.putObj D (.deferred none)).cell? ⟨w.heap.size, 1, none⟩ = some (.string ⟨#[]⟩) from Has.cell (show Has (W.putObj D (.deferred none)) _ _ _ from (World.putObj_heap_other (by omega)).trans h8) 1 _ rfl)
    have z2 := Lib.hid (show (W.putObj D (.deferred none)).cell? ⟨w.heap.size, 2, none⟩ = some (.slice none 0 0) from Has.cell (show Has (W.putObj D (.deferred none)) _ _ _ from (World.putObj_heap_other (by omega)).trans h8) 2 _ rfl)
    have z3 := Lib.hid (show (W.putObj D (.deferred none)).cell? ⟨w.heap.size + 1, 0, none⟩ = some (fltV x p) from Has.cell (show Has (W.putObj D (.deferred none)) _ _ _ from (World.putObj_heap_other (by omega)).trans h9) 0 _ rfl)
    replace hK := Lib.hid hK
    clear h8 h9 hG hrun hkN hrr hDn
    gi_wp2_with fail
    refine ⟨by simp, .inl ⟨_, _, rfl, run_takeDeferred hK.out, ?_⟩⟩
    replace z0 := z0.out
    replace z1 := z1.out
    replace z2 := z2.out
    replace z3 := z3.out
    exact ⟨.tuple #[.agg #[.bool false, .string ⟨#[]⟩, .slice none 0 0], fltV x p], by simp [results, Tryz.results75, go_sem, z0, z1, z2, z3], HE.out⟩

theorem list_any' (s : ByteArray) (R d a m e c : Nat) (w : World) (IH : ItemOK s R d) (hd : d ≤ 15) (hR : Has w R 100 (rdC s a m)) (hs : s.size ≤ 1099511627776) (he : e ≤ s.size) (ha : a < e) (hm : m ≤ 5000) (hc : 192 ≤ c) (hc2 : c < 256) (hbc : byteAt s.data.toList a = c) :
    Calls Tryz.prog 75 #[.pointer (some ⟨R, 0, none⟩), .int .i64 (c : Int), .int .i64 (e : Int), .int .i64 ((15 - d : Nat) : Int)] w (ItP s R w (rdList s d e a m)) := by
  rcases hh : rdHead s.data.toList (c - 192) e a with ⟨n, fr, x0⟩ | ⟨x, p⟩
  · exact list_good s R d a m e c n fr x0 w IH hd hR hs he ha hm hc hc2 hbc hh
  · exact list_bad s R d a m e c x p w hR hs he ha hc hc2 hbc hh
end Go.Proofs.YtbbpmcebakckaaaGreatDoor
