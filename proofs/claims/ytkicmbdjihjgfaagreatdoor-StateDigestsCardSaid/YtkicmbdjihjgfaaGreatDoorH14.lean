/- Part. -/
import Derived.Test.YtkicmbdjihjgfaaGreatDoorH13
set_option maxRecDepth 100000
set_option maxHeartbeats 16000000
namespace Go.Proofs.YtkicmbdjihjgfaaGreatDoor
open Go Go.RowKit
attribute [local go_sem] Oper.semAt_some Grows wide_fn
theorem results_two {fn : Func} {t4 t5 t6 : Tmp} {tmps : Array Value} {W : World} {B2 B3 : Nat} {x : Ac} {sv v : Value} {u : Ch} (h : fn.results = #[ResultVar.cell t4 31, ResultVar.cell t5 33, ResultVar.tmp t6]) (h4 : tmps.getD t4 undef = .pointer (some ⟨B2, 0, none⟩)) (h5 : tmps.getD t5 undef = .pointer (some ⟨B3, 0, none⟩)) (h6 : tmps.getD t6 undef = v) (hA : Has W B2 31 (acC x sv)) (hB : Has W B3 33 (chC u)) :
  (results fn tmps).run Tryz.prog W = .ok (.tuple #[.agg (acC x sv), .agg (chC u), v]) W := by
 simp at h4 h5 h6
 simp [results, h, h4, h5, h6, asAddr, hA.accLoad, hB.chLoad]
theorem accRow (x : Ac) (sv : Value) (hs : sv.oneCell' = true) : (Tryz.prog.info? 31).map (·.size) = some (acC x sv).size ∧ (#[.int .u8 0, .int .u8 0, .int .u8 0, .int .u8 0, .int .u8 0, .int .u8 0, .int .u8 0, .int .u8 0, .int .u8 0, .int .u8 0, .int .u8 0, .int .u8 0, .int .u8 0, .int .u8 0, .int .u8 0, .int .u8 0, .int .u8 0, .int .u8 0, .int .u8 0, .int .u8 0, .int .u64 0, .int .u64 0, .int .u64 0, .int .u64 0, .int .i64 0, .string { data := #[] }, .slice none 0 0] : Array Value).size = (acC x sv).size ∧ (acC x sv).all (·.oneCell') = true :=
 ⟨by rw [acC_size]; exact infoAc, by rw [acC_size]; rfl, acC_one x sv hs⟩
theorem chRow (u : Ch) : (Tryz.prog.info? 33).map (·.size) = some (chC u).size ∧ (#[.int .i64 0, .int .u8 0, .int .u8 0, .int .u8 0, .int .u8 0, .int .u8 0, .int .u8 0, .int .u8 0, .int .u8 0, .int .u8 0, .int .u8 0, .int .u8 0, .int .u8 0, .int .u8 0, .int .u8 0, .int .u8 0, .int .u8 0, .int .u8 0, .int .u8 0, .int .u8 0, .int .u8 0, .int .u64 0, .int .u64 0, .int .u64 0, .int .u64 0, .int .u64 0, .int .u64 0, .int .u64 0, .int .u64 0, .int .i64 0, .string { data := #[] }] : Array Value).size = (chC u).size ∧ (chC u).all (·.oneCell') = true :=
 ⟨by rw [chC_size]; exact infoCh, by rw [chC_size]; rfl, chC_one u⟩
theorem done_put {y w' : World} {a l : List Sl} {e : Ending} (h : DoneP y (rightB' a) l e w') : ∃ sv' er sl, e = .returned (.tuple #[sv', .int .i64 er]) ∧ RowT w' y.heap.size sv' sl ∧ (if rightB' a = true then (if l.length ≤ 1000 then l else []) else []) = sl ∧ (if rightB' a = true then (if l.length ≤ 1000 then (0 : Int) else 2) else 1) = er ∧ Below y.heap.size y w' := by
 rcases h.1 with ⟨h1, h2, sv, h3, h4⟩ | ⟨h1, h2, h3⟩ | ⟨h1, h3⟩
 ·exact ⟨sv, 0, l, h3, h4, by rw [h1, if_pos rfl, if_pos h2], by rw [h1, if_pos rfl, if_pos h2], h.2⟩
 ·exact ⟨_, 2, [], h3, World.ownsRow_nil _ _ _ _, by rw [h1, if_pos rfl, if_neg h2], by rw [h1, if_pos rfl, if_neg h2], h.2⟩
 ·exact ⟨_, 1, [], h3, World.ownsRow_nil _ _ _ _, by rw [h1, if_neg (by decide)], by rw [h1, if_neg (by decide)], h.2⟩
noncomputable def chgE (x : Ac) (c : Ch) : Int := if c.kind = 1 then 0 else if c.kind = 2 then 0 else if c.kind = 3 then 0 else if c.kind = 4 then (if rightB' x.slots = true then (if (mergeL x.slots [(c.key, c.val)]).length ≤ 1000 then 0 else 2) else 1) else 1
noncomputable def chgX (x : Ac) (c : Ch) : Ac := if c.kind = 1 then { x with bal := c.val } else if c.kind = 2 then { x with non := c.non } else if c.kind = 3 then { x with code := c.code } else if c.kind = 4 then { x with slots := if rightB' x.slots = true then (if (mergeL x.slots [(c.key, c.val)]).length ≤ 1000 then mergeL x.slots [(c.key, c.val)] else []) else [] } else x
def chgB (c : Ch) : Ch := ⟨c.kind, c.at_, 0, 0, 0, ⟨#[]⟩⟩
noncomputable def chgU (x : Ac) (c : Ch) : Ch := if c.kind = 1 then { chgB c with val := x.bal } else if c.kind = 2 then { chgB c with non := x.non } else if c.kind = 3 then { chgB c with code := x.code } else if c.kind = 4 then { chgB c with key := c.key, val := look x.slots c.key } else chgB c
theorem changed_any (W : World) (x : Ac) (sx : Value) (hx : AcOk x) (hr : KeepS W sx x.slots) (hw : ∀ y ∈ x.slots, W256 y.1 ∧ W256 y.2) (c : Ch) (hc : ChOk c) :
  Calls Tryz.prog 62 #[.agg (acC x sx), .agg (chC c)] W fun e w' => ∃ sv', e = .returned (.tuple #[.agg (acC (chgX x c) sv'), .agg (chC (chgU x c)), .int .i64 (chgE x c)]) ∧ KeepS w' sv' (chgX x c).slots ∧ Below W.heap.size W w' := by
 have hmx : Tryz.prog.follows .mixedOrders = true := by kernel_rfl
 obtain ⟨Post, hPost⟩ : ∃ Post : Ending → World → Prop, (fun (e : Ending) (w' : World) => ∃ sv', e = .returned (.tuple #[.agg (acC (chgX x c) sv'), .agg (chC (chgU x c)), .int .i64 (chgE x c)]) ∧ KeepS w' sv' (chgX x c).slots ∧ Below W.heap.size W w') = Post := ⟨_, rfl⟩
 have HF := hid (show ∀ w' x' sv' u er, chgX x c = x' → chgU x c = u → chgE x c = er → KeepS w' sv' x'.slots → Below W.heap.size W w' → Post (.returned (.tuple #[.agg (acC x' sv'), .agg (chC u), .int .i64 er])) w' from fun w' x' sv' u er e1 e2 e3 h1 h2 => by
  rw [← hPost]
  subst e1 e2 e3
  exact ⟨_, rfl, h1, h2⟩)
 rw [hPost]
 clear hPost
 have HRT := hid hr
 have hs : SlotsAt W sx x.slots := by
  obtain ⟨lo, h⟩ := hr
  exact h.slots hw
 clear hr hw
 obtain ⟨sa, sc, rfl, _, _⟩ := hs.shape
 obtain ⟨cx, hcx⟩ : ∃ cx, acC x (.slice sa x.slots.length sc) = cx := ⟨_, rfl⟩
 obtain ⟨cc, hcc⟩ : ∃ cc, chC c = cc := ⟨_, rfl⟩
 rw [hcx, hcc]
 have h10 := Has.new W 31 cx
 have q1 := newA W (.cells cx 31)
 obtain ⟨W1, hW1⟩ : ∃ W1, W.alloc (.cells cx 31) = W1 := ⟨_, rfl⟩
 rw [hW1] at h10 q1
 have h21 := Has.new W1 33 cc
 have q2 := newA W1 (.cells cc 33)
 obtain ⟨W2, hW2⟩ : ∃ W2, W1.alloc (.cells cc 33) = W2 := ⟨_, rfl⟩
 rw [hW2] at h21 q2
 obtain ⟨W3, hW3, h32, q3⟩ := newK0 W2
 obtain ⟨W4, hW4, h43, q4⟩ := newK1 W3
 obtain ⟨W5, hW5, h54, q5⟩ := newK1 W4
 have hlt := hid (show W.heap.size < W1.heap.size ∧ W1.heap.size < W2.heap.size ∧ W2.heap.size < W3.heap.size ∧ W3.heap.size < W4.heap.size from ⟨h10.lt, h21.lt, h32.lt, h43.lt⟩)
 have q24 := q3.trans (q4.mono q3.size)
 have h14 := ((h10.later q2).later q3).later q4
 have h24 := (h21.later q3).later q4
 have h34 := h32.later q4
 have qW4 := hid (((q1.trans (q2.mono q1.size)).trans (q3.mono (q1.trans (q2.mono q1.size)).size)).trans (q4.mono ((q1.trans (q2.mono q1.size)).trans (q3.mono (q1.trans (q2.mono q1.size)).size)).size))
 have h24c : Has W4 W1.heap.size 33 (chC c) := by rw [hcc]; exact h24
 obtain ⟨k0, _⟩ := h24c.ch
 have ha1 := h24c.chAdLoad
 have hlit : adC c.at_ = #[.int .u8 ((adB c.at_ 0 : Nat) : Int), .int .u8 ((adB c.at_ 1 : Nat) : Int), .int .u8 ((adB c.at_ 2 : Nat) : Int), .int .u8 ((adB c.at_ 3 : Nat) : Int), .int .u8 ((adB c.at_ 4 : Nat) : Int), .int .u8 ((adB c.at_ 5 : Nat) : Int), .int .u8 ((adB c.at_ 6 : Nat) : Int), .int .u8 ((adB c.at_ 7 : Nat) : Int), .int .u8 ((adB c.at_ 8 : Nat) : Int), .int .u8 ((adB c.at_ 9 : Nat) : Int), .int .u8 ((adB c.at_ 10 : Nat) : Int), .int .u8 ((adB c.at_ 11 : Nat) : Int), .int .u8 ((adB c.at_ 12 : Nat) : Int), .int .u8 ((adB c.at_ 13 : Nat) : Int), .int .u8 ((adB c.at_ 14 : Nat) : Int), .int .u8 ((adB c.at_ 15 : Nat) : Int), .int .u8 ((adB c.at_ 16 : Nat) : Int), .int .u8 ((adB c.at_ 17 : Nat) : Int), .int .u8 ((adB c.at_ 18 : Nat) : Int), .int .u8 ((adB c.at_ 19 : Nat) : Int)] := rfl
 obtain ⟨b0, e0⟩ : ∃ b, ((adB c.at_ 0 : Nat) : Int) = b := ⟨_, rfl⟩
 rw [e0] at hlit
 replace e0 := hid e0
 obtain ⟨b1, e1⟩ : ∃ b, ((adB c.at_ 1 : Nat) : Int) = b := ⟨_, rfl⟩
 rw [e1] at hlit
 replace e1 := hid e1
 obtain ⟨b2, e2⟩ : ∃ b, ((adB c.at_ 2 : Nat) : Int) = b := ⟨_, rfl⟩
 rw [e2] at hlit
 replace e2 := hid e2
 obtain ⟨b3, e3⟩ : ∃ b, ((adB c.at_ 3 : Nat) : Int) = b := ⟨_, rfl⟩
 rw [e3] at hlit
 replace e3 := hid e3
 obtain ⟨b4, e4⟩ : ∃ b, ((adB c.at_ 4 : Nat) : Int) = b := ⟨_, rfl⟩
 rw [e4] at hlit
 replace e4 := hid e4
 obtain ⟨b5, e5⟩ : ∃ b, ((adB c.at_ 5 : Nat) : Int) = b := ⟨_, rfl⟩
 rw [e5] at hlit
 replace e5 := hid e5
 obtain ⟨b6, e6⟩ : ∃ b, ((adB c.at_ 6 : Nat) : Int) = b := ⟨_, rfl⟩
 rw [e6] at hlit
 replace e6 := hid e6
 obtain ⟨b7, e7⟩ : ∃ b, ((adB c.at_ 7 : Nat) : Int) = b := ⟨_, rfl⟩
 rw [e7] at hlit
 replace e7 := hid e7
 obtain ⟨b8, e8⟩ : ∃ b, ((adB c.at_ 8 : Nat) : Int) = b := ⟨_, rfl⟩
 rw [e8] at hlit
 replace e8 := hid e8
 obtain ⟨b9, e9⟩ : ∃ b, ((adB c.at_ 9 : Nat) : Int) = b := ⟨_, rfl⟩
 rw [e9] at hlit
 replace e9 := hid e9
 obtain ⟨b10, e10⟩ : ∃ b, ((adB c.at_ 10 : Nat) : Int) = b := ⟨_, rfl⟩
 rw [e10] at hlit
 replace e10 := hid e10
 obtain ⟨b11, e11⟩ : ∃ b, ((adB c.at_ 11 : Nat) : Int) = b := ⟨_, rfl⟩
 rw [e11] at hlit
 replace e11 := hid e11
 obtain ⟨b12, e12⟩ : ∃ b, ((adB c.at_ 12 : Nat) : Int) = b := ⟨_, rfl⟩
 rw [e12] at hlit
 replace e12 := hid e12
 obtain ⟨b13, e13⟩ : ∃ b, ((adB c.at_ 13 : Nat) : Int) = b := ⟨_, rfl⟩
 rw [e13] at hlit
 replace e13 := hid e13
 obtain ⟨b14, e14⟩ : ∃ b, ((adB c.at_ 14 : Nat) : Int) = b := ⟨_, rfl⟩
 rw [e14] at hlit
 replace e14 := hid e14
 obtain ⟨b15, e15⟩ : ∃ b, ((adB c.at_ 15 : Nat) : Int) = b := ⟨_, rfl⟩
 rw [e15] at hlit
 replace e15 := hid e15
 obtain ⟨b16, e16⟩ : ∃ b, ((adB c.at_ 16 : Nat) : Int) = b := ⟨_, rfl⟩
 rw [e16] at hlit
 replace e16 := hid e16
 obtain ⟨b17, e17⟩ : ∃ b, ((adB c.at_ 17 : Nat) : Int) = b := ⟨_, rfl⟩
 rw [e17] at hlit
 replace e17 := hid e17
 obtain ⟨b18, e18⟩ : ∃ b, ((adB c.at_ 18 : Nat) : Int) = b := ⟨_, rfl⟩
 rw [e18] at hlit
 replace e18 := hid e18
 obtain ⟨b19, e19⟩ : ∃ b, ((adB c.at_ 19 : Nat) : Int) = b := ⟨_, rfl⟩
 rw [e19] at hlit
 replace e19 := hid e19
 rw [hlit] at ha1
 obtain ⟨kd, hkd⟩ : ∃ kd, c.kind = kd := ⟨_, rfl⟩
 have hcz : chC (chgB c) = #[.int .i64 kd, .int .u8 b0, .int .u8 b1, .int .u8 b2, .int .u8 b3, .int .u8 b4, .int .u8 b5, .int .u8 b6, .int .u8 b7, .int .u8 b8, .int .u8 b9, .int .u8 b10, .int .u8 b11, .int .u8 b12, .int .u8 b13, .int .u8 b14, .int .u8 b15, .int .u8 b16, .int .u8 b17, .int .u8 b18, .int .u8 b19, .int .u64 0, .int .u64 0, .int .u64 0, .int .u64 0, .int .u64 0, .int .u64 0, .int .u64 0, .int .u64 0, .int .i64 0, .string { data := #[] }] := by
  rw [← e0.out, ← e1.out, ← e2.out, ← e3.out, ← e4.out, ← e5.out, ← e6.out, ← e7.out, ← e8.out, ← e9.out, ← e10.out, ← e11.out, ← e12.out, ← e13.out, ← e14.out, ← e15.out, ← e16.out, ← e17.out, ← e18.out, ← e19.out, ← hkd]
  unfold chgB chC chL chT
  simp only [lim_zero]
  rfl
 rw [hkd] at k0
 obtain ⟨W6, hW6⟩ : ∃ W6, W5.setRow W4.heap.size #[.int .i64 kd, .int .u8 b0, .int .u8 b1, .int .u8 b2, .int .u8 b3, .int .u8 b4, .int .u8 b5, .int .u8 b6, .int .u8 b7, .int .u8 b8, .int .u8 b9, .int .u8 b10, .int .u8 b11, .int .u8 b12, .int .u8 b13, .int .u8 b14, .int .u8 b15, .int .u8 b16, .int .u8 b17, .int .u8 b18, .int .u8 b19, .int .u64 0, .int .u64 0, .int .u64 0, .int .u64 0, .int .u64 0, .int .u64 0, .int .u64 0, .int .u64 0, .int .i64 0, .string { data := #[] }] = W6 := ⟨_, rfl⟩
 have q6 := below_rowAc q5 (g := W4.heap.size) (Nat.le_refl _) #[.int .i64 kd, .int .u8 b0, .int .u8 b1, .int .u8 b2, .int .u8 b3, .int .u8 b4, .int .u8 b5, .int .u8 b6, .int .u8 b7, .int .u8 b8, .int .u8 b9, .int .u8 b10, .int .u8 b11, .int .u8 b12, .int .u8 b13, .int .u8 b14, .int .u8 b15, .int .u8 b16, .int .u8 b17, .int .u8 b18, .int .u8 b19, .int .u64 0, .int .u64 0, .int .u64 0, .int .u64 0, .int .u64 0, .int .u64 0, .int .u64 0, .int .u64 0, .int .i64 0, .string { data := #[] }]
 have h64 : Has (W5.setRow W4.heap.size #[.int .i64 kd, .int .u8 b0, .int .u8 b1, .int .u8 b2, .int .u8 b3, .int .u8 b4, .int .u8 b5, .int .u8 b6, .int .u8 b7, .int .u8 b8, .int .u8 b9, .int .u8 b10, .int .u8 b11, .int .u8 b12, .int .u8 b13, .int .u8 b14, .int .u8 b15, .int .u8 b16, .int .u8 b17, .int .u8 b18, .int .u8 b19, .int .u64 0, .int .u64 0, .int .u64 0, .int .u64 0, .int .u64 0, .int .u64 0, .int .u64 0, .int .u64 0, .int .i64 0, .string { data := #[] }]) W4.heap.size 33 #[.int .i64 kd, .int .u8 b0, .int .u8 b1, .int .u8 b2, .int .u8 b3, .int .u8 b4, .int .u8 b5, .int .u8 b6, .int .u8 b7, .int .u8 b8, .int .u8 b9, .int .u8 b10, .int .u8 b11, .int .u8 b12, .int .u8 b13, .int .u8 b14, .int .u8 b15, .int .u8 b16, .int .u8 b17, .int .u8 b18, .int .u8 b19, .int .u64 0, .int .u64 0, .int .u64 0, .int .u64 0, .int .u64 0, .int .u64 0, .int .u64 0, .int .u64 0, .int .i64 0, .string { data := #[] }] := setRow_heap _ _ _ _ _ _ h54
 rw [hW6] at q6 h64
 have hi5 : (Tryz.prog.info? 33).map (·.size) = some (#[.int .i64 kd, .int .u8 b0, .int .u8 b1, .int .u8 b2, .int .u8 b3, .int .u8 b4, .int .u8 b5, .int .u8 b6, .int .u8 b7, .int .u8 b8, .int .u8 b9, .int .u8 b10, .int .u8 b11, .int .u8 b12, .int .u8 b13, .int .u8 b14, .int .u8 b15, .int .u8 b16, .int .u8 b17, .int .u8 b18, .int .u8 b19, .int .u64 0, .int .u64 0, .int .u64 0, .int .u64 0, .int .u64 0, .int .u64 0, .int .u64 0, .int .u64 0, .int .i64 0, .string { data := #[] }] : Array Value).size := infoCh
 have ho5 : (#[.int .i64 0, .int .u8 0, .int .u8 0, .int .u8 0, .int .u8 0, .int .u8 0, .int .u8 0, .int .u8 0, .int .u8 0, .int .u8 0, .int .u8 0, .int .u8 0, .int .u8 0, .int .u8 0, .int .u8 0, .int .u8 0, .int .u8 0, .int .u8 0, .int .u8 0, .int .u8 0, .int .u8 0, .int .u64 0, .int .u64 0, .int .u64 0, .int .u64 0, .int .u64 0, .int .u64 0, .int .u64 0, .int .u64 0, .int .i64 0, .string { data := #[] }] : Array Value).size = (#[.int .i64 kd, .int .u8 b0, .int .u8 b1, .int .u8 b2, .int .u8 b3, .int .u8 b4, .int .u8 b5, .int .u8 b6, .int .u8 b7, .int .u8 b8, .int .u8 b9, .int .u8 b10, .int .u8 b11, .int .u8 b12, .int .u8 b13, .int .u8 b14, .int .u8 b15, .int .u8 b16, .int .u8 b17, .int .u8 b18, .int .u8 b19, .int .u64 0, .int .u64 0, .int .u64 0, .int .u64 0, .int .u64 0, .int .u64 0, .int .u64 0, .int .u64 0, .int .i64 0, .string { data := #[] }] : Array Value).size := rfl
 have ha5 : (#[.int .i64 kd, .int .u8 b0, .int .u8 b1, .int .u8 b2, .int .u8 b3, .int .u8 b4, .int .u8 b5, .int .u8 b6, .int .u8 b7, .int .u8 b8, .int .u8 b9, .int .u8 b10, .int .u8 b11, .int .u8 b12, .int .u8 b13, .int .u8 b14, .int .u8 b15, .int .u8 b16, .int .u8 b17, .int .u8 b18, .int .u8 b19, .int .u64 0, .int .u64 0, .int .u64 0, .int .u64 0, .int .u64 0, .int .u64 0, .int .u64 0, .int .u64 0, .int .i64 0, .string { data := #[] }] : Array Value).all (·.oneCell') = true := by rw [← hcz]; exact chC_one _
 have HU := hid (show Has W6 W4.heap.size 33 (chC (chgB c)) by rw [hcz]; exact h64)
 have HX := hid (show Has W6 W.heap.size 31 (acC x (.slice sa x.slots.length sc)) by rw [hcx]; exact h14.later q6)
 have hC6 := h24c.later q6
 have HC := hid hC6
 have HR2 := hid (h34.later q6)
 have HR3 := hid (h43.later q6)
 have QW := hid (qW4.out.trans (q6.mono qW4.out.size))
 obtain ⟨k6, _⟩ := hC6.ch
 rw [hkd] at k6
 have HKD := hid hkd
 have HXO := hid hx
 have HCO := hid hc
 have HSX := hid hs
 have HD := hid (show W.heap.size ≠ W1.heap.size ∧ W.heap.size ≠ W2.heap.size ∧ W.heap.size ≠ W3.heap.size ∧ W.heap.size ≠ W4.heap.size ∧ W1.heap.size ≠ W2.heap.size ∧ W1.heap.size ≠ W3.heap.size ∧ W1.heap.size ≠ W4.heap.size ∧ W2.heap.size ≠ W3.heap.size ∧ W2.heap.size ≠ W4.heap.size ∧ W3.heap.size ≠ W4.heap.size ∧ W.heap.size ≤ W1.heap.size ∧ W.heap.size ≤ W2.heap.size ∧ W.heap.size ≤ W3.heap.size ∧ W.heap.size ≤ W4.heap.size by have := hlt.out; omega)
 clear h10 q1 h21 q2 h32 q3 h43 q4 q5 h14 h24 h34 h24c hlit hcz q6 h64 hC6 hkd q24 hx hc hs hcx hcc
 by_cases h1i : kd = 1
 ·subst h1i
  have EX := hid (show chgX x c = { x with bal := c.val } from by unfold chgX; rw [if_pos HKD.out])
  have EU := hid (show chgU x c = { chgB c with val := x.bal } from by unfold chgU; rw [if_pos HKD.out])
  have EE := hid (show chgE x c = 0 from by unfold chgE; rw [if_pos HKD.out])
  go_enter Tryz.func62, Tryz.ntmps62
  go_wp2_with (first | (refine wpList_load_known rfl _ (.tmp 11) rfl _ rfl _ ha1 ?_) | (refine wpList_store_row rfl _ (.tmp 7) (.tmp 13) rfl _ _ rfl rfl _ _ h54 hi5 ho5 ha5 ?_; rw [hW6]))
  clear hW1 hW2 hW3 hW4 hW5 hW6 ha1 h54 hi5 ho5 ha5 k0
  refine Late.wp_region_ghost [some (.pointer (some ⟨W.heap.size, 20, none⟩)), some (.agg #[.int .u64 (lim (x.bal) 0), .int .u64 (lim (x.bal) 1), .int .u64 (lim (x.bal) 2), .int .u64 (lim (x.bal) 3)]), some (.pointer (some ⟨W1.heap.size, 25, none⟩)), some (.agg #[.int .u64 (lim (c.val) 0), .int .u64 (lim (c.val) 1), .int .u64 (lim (c.val) 2), .int .u64 (lim (c.val) 3)]), some (.pointer (some ⟨W4.heap.size, 25, none⟩)), none, some (.pointer (some ⟨W.heap.size, 20, none⟩)), none] [[], [0], [], [2], [0, 1], [0, 1, 4], [0, 1, 2, 3, 4, 5], [0, 1, 2, 3, 4, 5, 6]] (U5 W (W.heap.size) (W1.heap.size) (W2.heap.size) (W3.heap.size) (W4.heap.size) x ({ x with bal := c.val }) (.slice sa x.slots.length sc) c (chgB c) ({ chgB c with val := x.bal })) hmx (by kernel_rfl) (by kernel_rfl) (fun f g wa wb h hb => h.later hb) (fun f f' g g' wa h => fun hh => hh.same (h 5 rfl).1 (h 7 rfl).1) ?_ ?_
  ·exact U5.later (show U5 W (W.heap.size) (W1.heap.size) (W2.heap.size) (W3.heap.size) (W4.heap.size) x ({ x with bal := c.val }) (.slice sa x.slots.length sc) c (chgB c) ({ chgB c with val := x.bal }) (fun _ => false) (fun _ => undef) W6 from ⟨QW.out, HC.out, HR2.out, HR3.out, fun _ => HU.out, fun h => absurd h (by simp), fun _ => HX.out, fun h => absurd h (by simp)⟩) ((Below.refl _ _).drew)
  rintro f g y hU Dn
  refine GW.known _ rfl (fun hd hf => ?_) ?_
  ·clear hU Dn hd
   go_wp2_with fail
   exact ⟨rfl, rfl, Below.refl _ _⟩
  simp only [Act.put, sT, sS, sZ]
  refine GW.known _ rfl (fun hd hf => ?_) ?_
  ·have f7 : f 7 = false := (by cases h : f 7 with | false => rfl | true => exact absurd (Dn 7 h 1 (by decide)) (by rw [hf]; simp))
   obtain ⟨c20, c21, c22, c23, c24, c25, c26⟩ := (hU.2.2.2.2.2.2.1 f7).acc
   go_wp2_with fail
   exact ⟨rfl, rfl, Below.refl _ _⟩
  simp only [Act.put, sT, sS, sZ]
  refine GW.known _ rfl (fun hd hf => ?_) ?_
  ·clear hU Dn hd
   go_wp2_with fail
   exact ⟨rfl, rfl, Below.refl _ _⟩
  simp only [Act.put, sT, sS, sZ]
  refine GW.known _ rfl (fun hd hf => ?_) ?_
  ·obtain ⟨m0, m21, m22, m23, m24, m25, m26, m27, m28, m29, m30⟩ := hU.2.1.ch
   go_wp2_with fail
   exact ⟨rfl, rfl, Below.refl _ _⟩
  simp only [Act.put, sT, sS, sZ]
  refine GW.known _ rfl (fun hd hf => ?_) ?_
  ·clear hU Dn hd
   go_wp2_with fail
   exact ⟨rfl, rfl, Below.refl _ _⟩
  simp only [Act.put, sT, sS, sZ]
  refine GW.open rfl (fun hd hf => ?_) ?_
  ·have f7 : f 7 = false := (by cases h : f 7 with | false => rfl | true => exact absurd (Dn 7 h 5 (by decide)) (by rw [hf]; simp))
   have hu := hU.2.2.2.2.1 hf
   obtain ⟨m0, m21, m22, m23, m24, m25, m26, m27, m28, m29, m30⟩ := hu.ch
   have z25 := (hu).frozen 25
   have z26 := (hu).frozen 26
   have z27 := (hu).frozen 27
   have z28 := (hu).frozen 28
   have hfin := fun v => hU.first f7 (((((OnlyB.refl y (W4.heap.size)).setCell 25 _).setCell 26 _).setCell 27 _).setCell 28 _) (hu.chVal x.bal) ⟨HD.out.2.2.2.1, HD.out.2.2.2.2.2.2.1, HD.out.2.2.2.2.2.2.2.2.1, HD.out.2.2.2.2.2.2.2.2.2.1, HD.out.2.2.2.2.2.2.2.2.2.2.2.2.2⟩ v
   clear hU Dn hd
   go_wp2_with fail
   exact ⟨rfl, hfin _⟩
  simp only [Act.put]
  refine GW.known _ rfl (fun hd hf => ?_) ?_
  ·clear hU Dn hd
   go_wp2_with fail
   exact ⟨rfl, rfl, Below.refl _ _⟩
  simp only [Act.put, sT, sS, sZ]
  refine GW.open rfl (fun hd hf => ?_) ?_
  ·have f5 : f 5 = true := hd 5 (by decide)
   have hx0 := hU.2.2.2.2.2.2.1 hf
   obtain ⟨c20, c21, c22, c23, c24, c25, c26⟩ := hx0.acc
   have z20 := (hx0).frozen 20
   have z21 := (hx0).frozen 21
   have z22 := (hx0).frozen 22
   have z23 := (hx0).frozen 23
   have hfin := fun v => hU.second f5 (((((OnlyB.refl y (W.heap.size)).setCell 20 _).setCell 21 _).setCell 22 _).setCell 23 _) (hx0.accBal c.val) ⟨HD.out.1.symm, HD.out.2.1.symm, HD.out.2.2.1.symm, HD.out.2.2.2.1.symm, Nat.le_refl _⟩ v
   clear hU Dn hd
   go_wp2_with fail
   exact ⟨rfl, hfin _⟩
  simp only [Act.put]
  refine GW.nil (fun hall => ?_)
  have QW' := hid hU.1
  have HR2' := hid hU.2.2.1
  have HR3' := hid hU.2.2.2.1
  have HU' := hid (hU.2.2.2.2.2.1 (hall 5 (by omega)))
  have HX' := hid (hU.2.2.2.2.2.2.2 (hall 7 (by omega)))
  have HK' := hid (show KeepS y (.slice sa x.slots.length sc) x.slots from HRT.out.later QW'.out)
  clear hU Dn hall
  go_wp2_with fail
  refine Late.wp_region_ghost [some (.agg (acC ({ x with bal := c.val }) (.slice sa x.slots.length sc))), some (.agg (chC ({ chgB c with val := x.bal }))), some (.int .i64 (0)), none, none, some (.int .i64 (0))] [[], [], [], [0], [0, 1, 3], [0, 1, 2, 3, 4]] (U13 W (W.heap.size) (W2.heap.size) (W3.heap.size) (W4.heap.size) ({ x with bal := c.val }) (.slice sa x.slots.length sc) ({ chgB c with val := x.bal })) hmx (by kernel_rfl) (by kernel_rfl) (fun f g wa wb h hb => h.later hb) (fun f f' g g' wa h => fun hh => hh.same (h 3 rfl).1 (h 4 rfl).1) ?_ ?_
  ·exact U13.later (show U13 W (W.heap.size) (W2.heap.size) (W3.heap.size) (W4.heap.size) ({ x with bal := c.val }) (.slice sa x.slots.length sc) ({ chgB c with val := x.bal }) (fun _ => false) (fun _ => undef) y from ⟨QW'.out, HX'.out, HU'.out, fun _ => HR2'.out, fun h => absurd h (by simp), fun _ => HR3'.out, fun h => absurd h (by simp), HK'.out⟩) ((Below.refl _ _).drew)
  clear HR2' HR3' HU' HX' HK' QW'
  rintro f g z hU Dn
  refine GW.known _ rfl (fun hd hf => ?_) ?_
  ·have hl := hU.2.1.accLoad
   clear hU Dn hd
   go_wp2_with (refine wpList_load_known rfl _ (.tmp 2) rfl _ rfl _ hl ?_)
   exact ⟨rfl, rfl, Below.refl _ _⟩
  simp only [Act.put, sT, sS, sZ]
  refine GW.known _ rfl (fun hd hf => ?_) ?_
  ·have hl := hU.2.2.1.chLoad
   clear hU Dn hd
   go_wp2_with (refine wpList_load_known rfl _ (.tmp 7) rfl _ rfl _ hl ?_)
   exact ⟨rfl, rfl, Below.refl _ _⟩
  simp only [Act.put, sT, sS, sZ]
  refine GW.known _ rfl (fun hd hf => ?_) ?_
  ·clear hU Dn hd
   go_wp2_with fail
   exact ⟨rfl, rfl, Below.refl _ _⟩
  simp only [Act.put, sT, sS, sZ]
  refine GW.open rfl (fun hd hf => ?_) ?_
  ·have f4 : f 4 = false := (by cases h : f 4 with | false => rfl | true => exact absurd (Dn 4 h 3 (by decide)) (by rw [hf]; simp))
   have hz := hU.2.2.2.1 hf
   have hfin := fun v => hU.first hf f4 ⟨HD.out.2.1.symm, HD.out.2.2.2.2.2.2.2.1, HD.out.2.2.2.2.2.2.2.2.1, HD.out.2.2.2.2.2.2.2.2.2.2.2.1⟩ v
   have hi := accRow ({ x with bal := c.val }) (.slice sa x.slots.length sc) rfl
   clear hU Dn hd
   go_wp2_with (refine wpList_store_row rfl _ (.tmp 4) (.tmp 62) rfl _ _ rfl rfl _ _ hz hi.1 hi.2.1 hi.2.2 ?_)
   exact ⟨rfl, hfin _⟩
  simp only [Act.put]
  refine GW.open rfl (fun hd hf => ?_) ?_
  ·have f3 : f 3 = true := hd 3 (by decide)
   have hz := hU.2.2.2.2.2.1 hf
   have hfin := fun v => hU.second f3 hf ⟨HD.out.2.2.1.symm, HD.out.2.2.2.2.2.2.2.1.symm, HD.out.2.2.2.2.2.2.2.2.2.1, HD.out.2.2.2.2.2.2.2.2.2.2.2.2.1⟩ v
   have hi := chRow ({ chgB c with val := x.bal })
   clear hU Dn hd
   go_wp2_with (refine wpList_store_row rfl _ (.tmp 5) (.tmp 63) rfl _ _ rfl rfl _ _ hz hi.1 hi.2.1 hi.2.2 ?_)
   exact ⟨rfl, hfin _⟩
  simp only [Act.put]
  refine GW.known _ rfl (fun hd hf => ?_) ?_
  ·clear hU Dn hd
   go_wp2_with fail
   exact ⟨rfl, rfl, Below.refl _ _⟩
  simp only [Act.put, sT, sS, sZ]
  refine GW.nil (fun hall => ?_)
  have hA := hU.2.2.2.2.1 (hall 3 (by omega))
  have hB := hU.2.2.2.2.2.2.1 (hall 4 (by omega))
  have hS := hU.2.2.2.2.2.2.2
  have hQ := hU.1
  have hfin := HF.out z ({ x with bal := c.val }) (.slice sa x.slots.length sc) ({ chgB c with val := x.bal }) (0) EX.out EU.out EE.out hS hQ
  clear hU Dn hall hS hQ
  go_wp2_with fail
  refine bodyPost_ret (results_two rfl rfl rfl rfl hA hB) rfl ?_
  exact hfin
 by_cases h2i : kd = 2
 ·subst h2i
  have h1 : ¬ c.kind = 1 := by rw [HKD.out]; decide
  have EX := hid (show chgX x c = { x with non := c.non } from by unfold chgX; rw [if_neg h1, if_pos HKD.out])
  have EU := hid (show chgU x c = { chgB c with non := x.non } from by unfold chgU; rw [if_neg h1, if_pos HKD.out])
  have EE := hid (show chgE x c = 0 from by unfold chgE; rw [if_neg h1, if_pos HKD.out])
  clear h1
  go_enter Tryz.func62, Tryz.ntmps62
  go_wp2_with (first | (refine wpList_load_known rfl _ (.tmp 11) rfl _ rfl _ ha1 ?_) | (refine wpList_store_row rfl _ (.tmp 7) (.tmp 13) rfl _ _ rfl rfl _ _ h54 hi5 ho5 ha5 ?_; rw [hW6]))
  clear hW1 hW2 hW3 hW4 hW5 hW6 ha1 h54 hi5 ho5 ha5 k0
  refine Late.wp_region_ghost [some (.pointer (some ⟨W.heap.size, 24, none⟩)), some (.int .i64 x.non), some (.pointer (some ⟨W1.heap.size, 29, none⟩)), some (.int .i64 c.non), some (.pointer (some ⟨W4.heap.size, 29, none⟩)), none, some (.pointer (some ⟨W.heap.size, 24, none⟩)), none] [[], [0], [], [2], [0, 1], [0, 1, 4], [0, 1, 2, 3, 4, 5], [0, 1, 2, 3, 4, 5, 6]] (U5 W (W.heap.size) (W1.heap.size) (W2.heap.size) (W3.heap.size) (W4.heap.size) x ({ x with non := c.non }) (.slice sa x.slots.length sc) c (chgB c) ({ chgB c with non := x.non })) hmx (by kernel_rfl) (by kernel_rfl) (fun f g wa wb h hb => h.later hb) (fun f f' g g' wa h => fun hh => hh.same (h 5 rfl).1 (h 7 rfl).1) ?_ ?_
  ·exact U5.later (show U5 W (W.heap.size) (W1.heap.size) (W2.heap.size) (W3.heap.size) (W4.heap.size) x ({ x with non := c.non }) (.slice sa x.slots.length sc) c (chgB c) ({ chgB c with non := x.non }) (fun _ => false) (fun _ => undef) W6 from ⟨QW.out, HC.out, HR2.out, HR3.out, fun _ => HU.out, fun h => absurd h (by simp), fun _ => HX.out, fun h => absurd h (by simp)⟩) ((Below.refl _ _).drew)
  rintro f g y hU Dn
  refine GW.known _ rfl (fun hd hf => ?_) ?_
  ·clear hU Dn hd
   go_wp2_with fail
   exact ⟨rfl, rfl, Below.refl _ _⟩
  simp only [Act.put, sT, sS, sZ]
  refine GW.known _ rfl (fun hd hf => ?_) ?_
  ·have f7 : f 7 = false := (by cases h : f 7 with | false => rfl | true => exact absurd (Dn 7 h 1 (by decide)) (by rw [hf]; simp))
   obtain ⟨c20, c21, c22, c23, c24, c25, c26⟩ := (hU.2.2.2.2.2.2.1 f7).acc
   go_wp2_with fail
   exact ⟨rfl, rfl, Below.refl _ _⟩
  simp only [Act.put, sT, sS, sZ]
  refine GW.known _ rfl (fun hd hf => ?_) ?_
  ·clear hU Dn hd
   go_wp2_with fail
   exact ⟨rfl, rfl, Below.refl _ _⟩
  simp only [Act.put, sT, sS, sZ]
  refine GW.known _ rfl (fun hd hf => ?_) ?_
  ·obtain ⟨m0, m21, m22, m23, m24, m25, m26, m27, m28, m29, m30⟩ := hU.2.1.ch
   go_wp2_with fail
   exact ⟨rfl, rfl, Below.refl _ _⟩
  simp only [Act.put, sT, sS, sZ]
  refine GW.known _ rfl (fun hd hf => ?_) ?_
  ·clear hU Dn hd
   go_wp2_with fail
   exact ⟨rfl, rfl, Below.refl _ _⟩
  simp only [Act.put, sT, sS, sZ]
  refine GW.open rfl (fun hd hf => ?_) ?_
  ·have f7 : f 7 = false := (by cases h : f 7 with | false => rfl | true => exact absurd (Dn 7 h 5 (by decide)) (by rw [hf]; simp))
   have hu := hU.2.2.2.2.1 hf
   obtain ⟨m0, m21, m22, m23, m24, m25, m26, m27, m28, m29, m30⟩ := hu.ch
   have z29 := (hu).frozen 29
   have hfin := fun v => hU.first f7 ((OnlyB.refl y (W4.heap.size)).setCell 29 _) (hu.chNon x.non) ⟨HD.out.2.2.2.1, HD.out.2.2.2.2.2.2.1, HD.out.2.2.2.2.2.2.2.2.1, HD.out.2.2.2.2.2.2.2.2.2.1, HD.out.2.2.2.2.2.2.2.2.2.2.2.2.2⟩ v
   clear hU Dn hd
   go_wp2_with fail
   exact ⟨rfl, hfin _⟩
  simp only [Act.put]
  refine GW.known _ rfl (fun hd hf => ?_) ?_
  ·clear hU Dn hd
   go_wp2_with fail
   exact ⟨rfl, rfl, Below.refl _ _⟩
  simp only [Act.put, sT, sS, sZ]
  refine GW.open rfl (fun hd hf => ?_) ?_
  ·have f5 : f 5 = true := hd 5 (by decide)
   have hx0 := hU.2.2.2.2.2.2.1 hf
   obtain ⟨c20, c21, c22, c23, c24, c25, c26⟩ := hx0.acc
   have z24 := (hx0).frozen 24
   have hfin := fun v => hU.second f5 ((OnlyB.refl y (W.heap.size)).setCell 24 _) (hx0.accNon c.non) ⟨HD.out.1.symm, HD.out.2.1.symm, HD.out.2.2.1.symm, HD.out.2.2.2.1.symm, Nat.le_refl _⟩ v
   clear hU Dn hd
   go_wp2_with fail
   exact ⟨rfl, hfin _⟩
  simp only [Act.put]
  refine GW.nil (fun hall => ?_)
  have QW' := hid hU.1
  have HR2' := hid hU.2.2.1
  have HR3' := hid hU.2.2.2.1
  have HU' := hid (hU.2.2.2.2.2.1 (hall 5 (by omega)))
  have HX' := hid (hU.2.2.2.2.2.2.2 (hall 7 (by omega)))
  have HK' := hid (show KeepS y (.slice sa x.slots.length sc) x.slots from HRT.out.later QW'.out)
  clear hU Dn hall
  go_wp2_with fail
  refine Late.wp_region_ghost [some (.agg (acC ({ x with non := c.non }) (.slice sa x.slots.length sc))), some (.agg (chC ({ chgB c with non := x.non }))), some (.int .i64 (0)), none, none, some (.int .i64 (0))] [[], [], [], [0], [0, 1, 3], [0, 1, 2, 3, 4]] (U13 W (W.heap.size) (W2.heap.size) (W3.heap.size) (W4.heap.size) ({ x with non := c.non }) (.slice sa x.slots.length sc) ({ chgB c with non := x.non })) hmx (by kernel_rfl) (by kernel_rfl) (fun f g wa wb h hb => h.later hb) (fun f f' g g' wa h => fun hh => hh.same (h 3 rfl).1 (h 4 rfl).1) ?_ ?_
  ·exact U13.later (show U13 W (W.heap.size) (W2.heap.size) (W3.heap.size) (W4.heap.size) ({ x with non := c.non }) (.slice sa x.slots.length sc) ({ chgB c with non := x.non }) (fun _ => false) (fun _ => undef) y from ⟨QW'.out, HX'.out, HU'.out, fun _ => HR2'.out, fun h => absurd h (by simp), fun _ => HR3'.out, fun h => absurd h (by simp), HK'.out⟩) ((Below.refl _ _).drew)
  clear HR2' HR3' HU' HX' HK' QW'
  rintro f g z hU Dn
  refine GW.known _ rfl (fun hd hf => ?_) ?_
  ·have hl := hU.2.1.accLoad
   clear hU Dn hd
   go_wp2_with (refine wpList_load_known rfl _ (.tmp 2) rfl _ rfl _ hl ?_)
   exact ⟨rfl, rfl, Below.refl _ _⟩
  simp only [Act.put, sT, sS, sZ]
  refine GW.known _ rfl (fun hd hf => ?_) ?_
  ·have hl := hU.2.2.1.chLoad
   clear hU Dn hd
   go_wp2_with (refine wpList_load_known rfl _ (.tmp 7) rfl _ rfl _ hl ?_)
   exact ⟨rfl, rfl, Below.refl _ _⟩
  simp only [Act.put, sT, sS, sZ]
  refine GW.known _ rfl (fun hd hf => ?_) ?_
  ·clear hU Dn hd
   go_wp2_with fail
   exact ⟨rfl, rfl, Below.refl _ _⟩
  simp only [Act.put, sT, sS, sZ]
  refine GW.open rfl (fun hd hf => ?_) ?_
  ·have f4 : f 4 = false := (by cases h : f 4 with | false => rfl | true => exact absurd (Dn 4 h 3 (by decide)) (by rw [hf]; simp))
   have hz := hU.2.2.2.1 hf
   have hfin := fun v => hU.first hf f4 ⟨HD.out.2.1.symm, HD.out.2.2.2.2.2.2.2.1, HD.out.2.2.2.2.2.2.2.2.1, HD.out.2.2.2.2.2.2.2.2.2.2.2.1⟩ v
   have hi := accRow ({ x with non := c.non }) (.slice sa x.slots.length sc) rfl
   clear hU Dn hd
   go_wp2_with (refine wpList_store_row rfl _ (.tmp 4) (.tmp 62) rfl _ _ rfl rfl _ _ hz hi.1 hi.2.1 hi.2.2 ?_)
   exact ⟨rfl, hfin _⟩
  simp only [Act.put]
  refine GW.open rfl (fun hd hf => ?_) ?_
  ·have f3 : f 3 = true := hd 3 (by decide)
   have hz := hU.2.2.2.2.2.1 hf
   have hfin := fun v => hU.second f3 hf ⟨HD.out.2.2.1.symm, HD.out.2.2.2.2.2.2.2.1.symm, HD.out.2.2.2.2.2.2.2.2.2.1, HD.out.2.2.2.2.2.2.2.2.2.2.2.2.1⟩ v
   have hi := chRow ({ chgB c with non := x.non })
   clear hU Dn hd
   go_wp2_with (refine wpList_store_row rfl _ (.tmp 5) (.tmp 63) rfl _ _ rfl rfl _ _ hz hi.1 hi.2.1 hi.2.2 ?_)
   exact ⟨rfl, hfin _⟩
  simp only [Act.put]
  refine GW.known _ rfl (fun hd hf => ?_) ?_
  ·clear hU Dn hd
   go_wp2_with fail
   exact ⟨rfl, rfl, Below.refl _ _⟩
  simp only [Act.put, sT, sS, sZ]
  refine GW.nil (fun hall => ?_)
  have hA := hU.2.2.2.2.1 (hall 3 (by omega))
  have hB := hU.2.2.2.2.2.2.1 (hall 4 (by omega))
  have hS := hU.2.2.2.2.2.2.2
  have hQ := hU.1
  have hfin := HF.out z ({ x with non := c.non }) (.slice sa x.slots.length sc) ({ chgB c with non := x.non }) (0) EX.out EU.out EE.out hS hQ
  clear hU Dn hall hS hQ
  go_wp2_with fail
  refine bodyPost_ret (results_two rfl rfl rfl rfl hA hB) rfl ?_
  exact hfin
 by_cases h3i : kd = 3
 ·subst h3i
  have h1 : ¬ c.kind = 1 := by rw [HKD.out]; decide
  have h2 : ¬ c.kind = 2 := by rw [HKD.out]; decide
  have EX := hid (show chgX x c = { x with code := c.code } from by unfold chgX; rw [if_neg h1, if_neg h2, if_pos HKD.out])
  have EU := hid (show chgU x c = { chgB c with code := x.code } from by unfold chgU; rw [if_neg h1, if_neg h2, if_pos HKD.out])
  have EE := hid (show chgE x c = 0 from by unfold chgE; rw [if_neg h1, if_neg h2, if_pos HKD.out])
  clear h1 h2
  go_enter Tryz.func62, Tryz.ntmps62
  go_wp2_with (first | (refine wpList_load_known rfl _ (.tmp 11) rfl _ rfl _ ha1 ?_) | (refine wpList_store_row rfl _ (.tmp 7) (.tmp 13) rfl _ _ rfl rfl _ _ h54 hi5 ho5 ha5 ?_; rw [hW6]))
  clear hW1 hW2 hW3 hW4 hW5 hW6 ha1 h54 hi5 ho5 ha5 k0
  refine Late.wp_region_ghost [some (.pointer (some ⟨W.heap.size, 25, none⟩)), some (.string x.code), some (.pointer (some ⟨W1.heap.size, 30, none⟩)), some (.string c.code), some (.pointer (some ⟨W4.heap.size, 30, none⟩)), none, some (.pointer (some ⟨W.heap.size, 25, none⟩)), none] [[], [0], [], [2], [0, 1], [0, 1, 4], [0, 1, 2, 3, 4, 5], [0, 1, 2, 3, 4, 5, 6]] (U5 W (W.heap.size) (W1.heap.size) (W2.heap.size) (W3.heap.size) (W4.heap.size) x ({ x with code := c.code }) (.slice sa x.slots.length sc) c (chgB c) ({ chgB c with code := x.code })) hmx (by kernel_rfl) (by kernel_rfl) (fun f g wa wb h hb => h.later hb) (fun f f' g g' wa h => fun hh => hh.same (h 5 rfl).1 (h 7 rfl).1) ?_ ?_
  ·exact U5.later (show U5 W (W.heap.size) (W1.heap.size) (W2.heap.size) (W3.heap.size) (W4.heap.size) x ({ x with code := c.code }) (.slice sa x.slots.length sc) c (chgB c) ({ chgB c with code := x.code }) (fun _ => false) (fun _ => undef) W6 from ⟨QW.out, HC.out, HR2.out, HR3.out, fun _ => HU.out, fun h => absurd h (by simp), fun _ => HX.out, fun h => absurd h (by simp)⟩) ((Below.refl _ _).drew)
  rintro f g y hU Dn
  refine GW.known _ rfl (fun hd hf => ?_) ?_
  ·clear hU Dn hd
   go_wp2_with fail
   exact ⟨rfl, rfl, Below.refl _ _⟩
  simp only [Act.put, sT, sS, sZ]
  refine GW.known _ rfl (fun hd hf => ?_) ?_
  ·have f7 : f 7 = false := (by cases h : f 7 with | false => rfl | true => exact absurd (Dn 7 h 1 (by decide)) (by rw [hf]; simp))
   obtain ⟨c20, c21, c22, c23, c24, c25, c26⟩ := (hU.2.2.2.2.2.2.1 f7).acc
   go_wp2_with fail
   exact ⟨rfl, rfl, Below.refl _ _⟩
  simp only [Act.put, sT, sS, sZ]
  refine GW.known _ rfl (fun hd hf => ?_) ?_
  ·clear hU Dn hd
   go_wp2_with fail
   exact ⟨rfl, rfl, Below.refl _ _⟩
  simp only [Act.put, sT, sS, sZ]
  refine GW.known _ rfl (fun hd hf => ?_) ?_
  ·obtain ⟨m0, m21, m22, m23, m24, m25, m26, m27, m28, m29, m30⟩ := hU.2.1.ch
   go_wp2_with fail
   exact ⟨rfl, rfl, Below.refl _ _⟩
  simp only [Act.put, sT, sS, sZ]
  refine GW.known _ rfl (fun hd hf => ?_) ?_
  ·clear hU Dn hd
   go_wp2_with fail
   exact ⟨rfl, rfl, Below.refl _ _⟩
  simp only [Act.put, sT, sS, sZ]
  refine GW.open rfl (fun hd hf => ?_) ?_
  ·have f7 : f 7 = false := (by cases h : f 7 with | false => rfl | true => exact absurd (Dn 7 h 5 (by decide)) (by rw [hf]; simp))
   have hu := hU.2.2.2.2.1 hf
   obtain ⟨m0, m21, m22, m23, m24, m25, m26, m27, m28, m29, m30⟩ := hu.ch
   have z30 := (hu).frozen 30
   have hfin := fun v => hU.first f7 ((OnlyB.refl y (W4.heap.size)).setCell 30 _) (hu.chCode x.code) ⟨HD.out.2.2.2.1, HD.out.2.2.2.2.2.2.1, HD.out.2.2.2.2.2.2.2.2.1, HD.out.2.2.2.2.2.2.2.2.2.1, HD.out.2.2.2.2.2.2.2.2.2.2.2.2.2⟩ v
   clear hU Dn hd
   go_wp2_with fail
   exact ⟨rfl, hfin _⟩
  simp only [Act.put]
  refine GW.known _ rfl (fun hd hf => ?_) ?_
  ·clear hU Dn hd
   go_wp2_with fail
   exact ⟨rfl, rfl, Below.refl _ _⟩
  simp only [Act.put, sT, sS, sZ]
  refine GW.open rfl (fun hd hf => ?_) ?_
  ·have f5 : f 5 = true := hd 5 (by decide)
   have hx0 := hU.2.2.2.2.2.2.1 hf
   obtain ⟨c20, c21, c22, c23, c24, c25, c26⟩ := hx0.acc
   have z25 := (hx0).frozen 25
   have hfin := fun v => hU.second f5 ((OnlyB.refl y (W.heap.size)).setCell 25 _) (hx0.accCode c.code) ⟨HD.out.1.symm, HD.out.2.1.symm, HD.out.2.2.1.symm, HD.out.2.2.2.1.symm, Nat.le_refl _⟩ v
   clear hU Dn hd
   go_wp2_with fail
   exact ⟨rfl, hfin _⟩
  simp only [Act.put]
  refine GW.nil (fun hall => ?_)
  have QW' := hid hU.1
  have HR2' := hid hU.2.2.1
  have HR3' := hid hU.2.2.2.1
  have HU' := hid (hU.2.2.2.2.2.1 (hall 5 (by omega)))
  have HX' := hid (hU.2.2.2.2.2.2.2 (hall 7 (by omega)))
  have HK' := hid (show KeepS y (.slice sa x.slots.length sc) x.slots from HRT.out.later QW'.out)
  clear hU Dn hall
  go_wp2_with fail
  refine Late.wp_region_ghost [some (.agg (acC ({ x with code := c.code }) (.slice sa x.slots.length sc))), some (.agg (chC ({ chgB c with code := x.code }))), some (.int .i64 (0)), none, none, some (.int .i64 (0))] [[], [], [], [0], [0, 1, 3], [0, 1, 2, 3, 4]] (U13 W (W.heap.size) (W2.heap.size) (W3.heap.size) (W4.heap.size) ({ x with code := c.code }) (.slice sa x.slots.length sc) ({ chgB c with code := x.code })) hmx (by kernel_rfl) (by kernel_rfl) (fun f g wa wb h hb => h.later hb) (fun f f' g g' wa h => fun hh => hh.same (h 3 rfl).1 (h 4 rfl).1) ?_ ?_
  ·exact U13.later (show U13 W (W.heap.size) (W2.heap.size) (W3.heap.size) (W4.heap.size) ({ x with code := c.code }) (.slice sa x.slots.length sc) ({ chgB c with code := x.code }) (fun _ => false) (fun _ => undef) y from ⟨QW'.out, HX'.out, HU'.out, fun _ => HR2'.out, fun h => absurd h (by simp), fun _ => HR3'.out, fun h => absurd h (by simp), HK'.out⟩) ((Below.refl _ _).drew)
  clear HR2' HR3' HU' HX' HK' QW'
  rintro f g z hU Dn
  refine GW.known _ rfl (fun hd hf => ?_) ?_
  ·have hl := hU.2.1.accLoad
   clear hU Dn hd
   go_wp2_with (refine wpList_load_known rfl _ (.tmp 2) rfl _ rfl _ hl ?_)
   exact ⟨rfl, rfl, Below.refl _ _⟩
  simp only [Act.put, sT, sS, sZ]
  refine GW.known _ rfl (fun hd hf => ?_) ?_
  ·have hl := hU.2.2.1.chLoad
   clear hU Dn hd
   go_wp2_with (refine wpList_load_known rfl _ (.tmp 7) rfl _ rfl _ hl ?_)
   exact ⟨rfl, rfl, Below.refl _ _⟩
  simp only [Act.put, sT, sS, sZ]
  refine GW.known _ rfl (fun hd hf => ?_) ?_
  ·clear hU Dn hd
   go_wp2_with fail
   exact ⟨rfl, rfl, Below.refl _ _⟩
  simp only [Act.put, sT, sS, sZ]
  refine GW.open rfl (fun hd hf => ?_) ?_
  ·have f4 : f 4 = false := (by cases h : f 4 with | false => rfl | true => exact absurd (Dn 4 h 3 (by decide)) (by rw [hf]; simp))
   have hz := hU.2.2.2.1 hf
   have hfin := fun v => hU.first hf f4 ⟨HD.out.2.1.symm, HD.out.2.2.2.2.2.2.2.1, HD.out.2.2.2.2.2.2.2.2.1, HD.out.2.2.2.2.2.2.2.2.2.2.2.1⟩ v
   have hi := accRow ({ x with code := c.code }) (.slice sa x.slots.length sc) rfl
   clear hU Dn hd
   go_wp2_with (refine wpList_store_row rfl _ (.tmp 4) (.tmp 62) rfl _ _ rfl rfl _ _ hz hi.1 hi.2.1 hi.2.2 ?_)
   exact ⟨rfl, hfin _⟩
  simp only [Act.put]
  refine GW.open rfl (fun hd hf => ?_) ?_
  ·have f3 : f 3 = true := hd 3 (by decide)
   have hz := hU.2.2.2.2.2.1 hf
   have hfin := fun v => hU.second f3 hf ⟨HD.out.2.2.1.symm, HD.out.2.2.2.2.2.2.2.1.symm, HD.out.2.2.2.2.2.2.2.2.2.1, HD.out.2.2.2.2.2.2.2.2.2.2.2.2.1⟩ v
   have hi := chRow ({ chgB c with code := x.code })
   clear hU Dn hd
   go_wp2_with (refine wpList_store_row rfl _ (.tmp 5) (.tmp 63) rfl _ _ rfl rfl _ _ hz hi.1 hi.2.1 hi.2.2 ?_)
   exact ⟨rfl, hfin _⟩
  simp only [Act.put]
  refine GW.known _ rfl (fun hd hf => ?_) ?_
  ·clear hU Dn hd
   go_wp2_with fail
   exact ⟨rfl, rfl, Below.refl _ _⟩
  simp only [Act.put, sT, sS, sZ]
  refine GW.nil (fun hall => ?_)
  have hA := hU.2.2.2.2.1 (hall 3 (by omega))
  have hB := hU.2.2.2.2.2.2.1 (hall 4 (by omega))
  have hS := hU.2.2.2.2.2.2.2
  have hQ := hU.1
  have hfin := HF.out z ({ x with code := c.code }) (.slice sa x.slots.length sc) ({ chgB c with code := x.code }) (0) EX.out EU.out EE.out hS hQ
  clear hU Dn hall hS hQ
  go_wp2_with fail
  refine bodyPost_ret (results_two rfl rfl rfl rfl hA hB) rfl ?_
  exact hfin
 by_cases h4i : kd = 4
 ·subst h4i
  have h1 : ¬ c.kind = 1 := by rw [HKD.out]; decide
  have h2 : ¬ c.kind = 2 := by rw [HKD.out]; decide
  have h3 : ¬ c.kind = 3 := by rw [HKD.out]; decide
  have EU := hid (show chgU x c = { chgB c with key := c.key, val := look x.slots c.key } from by unfold chgU; rw [if_neg h1, if_neg h2, if_neg h3, if_pos HKD.out])
  have EX0 := hid (show ∀ sl, (if rightB' x.slots = true then (if (mergeL x.slots [(c.key, c.val)]).length ≤ 1000 then mergeL x.slots [(c.key, c.val)] else []) else []) = sl → chgX x c = { x with slots := sl } from fun sl e => by unfold chgX; rw [if_neg h1, if_neg h2, if_neg h3, if_pos HKD.out, e])
  have EE0 := hid (show chgE x c = (if rightB' x.slots = true then (if (mergeL x.slots [(c.key, c.val)]).length ≤ 1000 then 0 else 2) else 1) from by unfold chgE; rw [if_neg h1, if_neg h2, if_neg h3, if_pos HKD.out])
  clear h1 h2 h3
  go_enter Tryz.func62, Tryz.ntmps62
  go_wp2_with (first | (refine wpList_load_known rfl _ (.tmp 11) rfl _ rfl _ ha1 ?_) | (refine wpList_store_row rfl _ (.tmp 7) (.tmp 13) rfl _ _ rfl rfl _ _ h54 hi5 ho5 ha5 ?_; rw [hW6]))
  clear hW1 hW2 hW3 hW4 hW5 hW6 ha1 h54 hi5 ho5 ha5 k0
  have m0 : ∀ z : Ext W6, z.w.cell? ⟨W1.heap.size, 21, none⟩ = some (.int .u64 (lim c.key 0)) := fun z => ((HC.out.later z.below).ch).2.1
  have m1 : ∀ z : Ext W6, z.w.cell? ⟨W1.heap.size, 22, none⟩ = some (.int .u64 (lim c.key 1)) := fun z => ((HC.out.later z.below).ch).2.2.1
  have m2 : ∀ z : Ext W6, z.w.cell? ⟨W1.heap.size, 23, none⟩ = some (.int .u64 (lim c.key 2)) := fun z => ((HC.out.later z.below).ch).2.2.2.1
  have m3 : ∀ z : Ext W6, z.w.cell? ⟨W1.heap.size, 24, none⟩ = some (.int .u64 (lim c.key 3)) := fun z => ((HC.out.later z.below).ch).2.2.2.2.1
  have s26 : ∀ z : Ext W6, z.w.cell? ⟨W.heap.size, 26, none⟩ = some (.slice sa x.slots.length sc) := fun z => ((HX.out.later z.below).acc).2.2.2.2.2.2
  have KG := hid (fun z : Ext W6 => Ext.at (get_any z.w (.slice sa x.slots.length sc) x.slots (HSX.out.later (QW.out.trans (z.below.mono QW.out.size))) c.key HCO.out.key))
  unfold wv at KG
  refine wp_region_mix (C := Grows W6) [some true, some true, some true, some true, some true, some true, some true, some true, none, none, none] hmx (by kernel_rfl) (by kernel_rfl) (grows_refl W6) ?_
  simp only [headOf, tailOf]
  repeat (go_big_quiet_step (first | (with_reducible exact KG.out _)))
  refine wpQuiet_nil ?_
  rintro _ ⟨z, rfl⟩
  clear m0 m1 m2 m3 s26 KG
  have hu := HU.out.later z.below
  obtain ⟨_, n21, n22, n23, n24, n25, n26, n27, n28, _⟩ := hu.ch
  have z21 := hu.frozen 21
  have z22 := hu.frozen 22
  have z23 := hu.frozen 23
  have z24 := hu.frozen 24
  have z25 := hu.frozen 25
  have z26 := hu.frozen 26
  have z27 := hu.frozen 27
  have z28 := hu.frozen 28
  have hU2 := (hu.chKey c.key).chVal (look x.slots c.key)
  have hON : OnlyB z.w ((((((((z.w.setCell ⟨W4.heap.size, 21, none⟩ (.int .u64 (lim c.key 0))).setCell ⟨W4.heap.size, 22, none⟩ (.int .u64 (lim c.key 1))).setCell ⟨W4.heap.size, 23, none⟩ (.int .u64 (lim c.key 2))).setCell ⟨W4.heap.size, 24, none⟩ (.int .u64 (lim c.key 3))).setCell ⟨W4.heap.size, 25, none⟩ (.int .u64 (lim (look x.slots c.key) 0))).setCell ⟨W4.heap.size, 26, none⟩ (.int .u64 (lim (look x.slots c.key) 1))).setCell ⟨W4.heap.size, 27, none⟩ (.int .u64 (lim (look x.slots c.key) 2))).setCell ⟨W4.heap.size, 28, none⟩ (.int .u64 (lim (look x.slots c.key) 3))) W4.heap.size := (((((((((OnlyB.refl z.w (W4.heap.size)).setCell 21 _).setCell 22 _).setCell 23 _).setCell 24 _).setCell 25 _).setCell 26 _).setCell 27 _).setCell 28 _)
  obtain ⟨y, hy⟩ : ∃ y, ((((((((z.w.setCell ⟨W4.heap.size, 21, none⟩ (.int .u64 (lim c.key 0))).setCell ⟨W4.heap.size, 22, none⟩ (.int .u64 (lim c.key 1))).setCell ⟨W4.heap.size, 23, none⟩ (.int .u64 (lim c.key 2))).setCell ⟨W4.heap.size, 24, none⟩ (.int .u64 (lim c.key 3))).setCell ⟨W4.heap.size, 25, none⟩ (.int .u64 (lim (look x.slots c.key) 0))).setCell ⟨W4.heap.size, 26, none⟩ (.int .u64 (lim (look x.slots c.key) 1))).setCell ⟨W4.heap.size, 27, none⟩ (.int .u64 (lim (look x.slots c.key) 2))).setCell ⟨W4.heap.size, 28, none⟩ (.int .u64 (lim (look x.slots c.key) 3))) = y := ⟨_, rfl⟩
  rw [hy] at hU2 hON
  have HON := hid hON
  have HU' := hid hU2
  have HX0 := hid (hON.has (HX.out.later z.below) HD.out.2.2.2.1)
  have HC' := hid (hON.has (HC.out.later z.below) HD.out.2.2.2.2.2.2.1)
  have HR20 := hid (hON.has (HR2.out.later z.below) HD.out.2.2.2.2.2.2.2.2.1)
  have HR30 := hid (hON.has (HR3.out.later z.below) HD.out.2.2.2.2.2.2.2.2.2.1)
  have QW0 := hid ((QW.out.trans (z.below.mono QW.out.size)).trans (hON.1.mono HD.out.2.2.2.2.2.2.2.2.2.2.2.2.2))
  clear hu hU2 hON
  go_wp2_with fail
  rw [calmPost_normal]
  try rw [hy]
  clear hy n21 n22 n23 n24 n25 n26 n27 n28 z21 z22 z23 z24 z25 z26 z27 z28
  obtain ⟨_, n21, n22, n23, n24, n25, n26, n27, n28, _⟩ := HC'.out.ch
  obtain ⟨_, _, _, _, _, _, x26⟩ := HX0.out.acc
  have KP := hid (put_any y (.slice sa x.slots.length sc) x.slots (HSX.out.later QW0.out) c.key c.val HCO.out.key HCO.out.val)
  unfold wv at KP
  go_wp2_with fail
  refine KP.out.mono ?_
  rintro _ w9 hdone
  obtain ⟨sv', er, sl, rfl, hrow, hsl, her, hq9⟩ := done_put hdone
  obtain ⟨sa', sc', rfl⟩ := hrow.shape
  have EX := hid (EX0.out sl hsl)
  have EE := hid (show chgE x c = er by rw [EE0.out, her])
  have HWI := hid (show ∀ y ∈ sl, W256 y.1 ∧ W256 y.2 by
   rw [← hsl]
   split
   ·split
    ·exact mergeL_wide8 _ _ HSX.out.wideAll (fun a ha => by simp at ha; subst ha; exact ⟨HCO.out.key, HCO.out.val⟩)
    ·intro a ha; cases ha
   ·intro a ha; cases ha)
  have hx9 := HX0.out.later hq9
  have z26 := hx9.frozen 26
  obtain ⟨_, _, _, _, _, _, x26'⟩ := hx9.acc
  have hon9 := (OnlyB.refl w9 W.heap.size).setCell 26 (.slice sa' sl.length sc')
  have HX' := hid (show Has (w9.setCell ⟨W.heap.size, 26, none⟩ (.slice sa' sl.length sc')) W.heap.size 31 (acC { x with slots := sl } (.slice sa' sl.length sc')) by
   have := hx9.set 26 (.slice sa' sl.length sc')
   rwa [acC_slots x _ _ sl] at this)
  have HU'' := hid (hon9.has (HU'.out.later hq9) HD.out.2.2.2.1.symm)
  have HR2' := hid (hon9.has (HR20.out.later hq9) HD.out.2.1.symm)
  have HR3' := hid (hon9.has (HR30.out.later hq9) HD.out.2.2.1.symm)
  have QW' := hid ((QW0.out.trans (hq9.mono QW0.out.size)).trans (hon9.1.mono (Nat.le_refl _)))
  have HK' := hid (show KeepS (w9.setCell ⟨W.heap.size, 26, none⟩ (.slice sa' sl.length sc')) (.slice sa' sl.length sc') sl from ⟨_, hrow.setAc hx9 26 _⟩)
  clear hdone hrow hsl her hq9 hx9 hon9 n21 n22 n23 n24 n25 n26 n27 n28 x26 KP EX0 EE0 HU' HX0 HC' HR20 HR30 QW0 HX HU HC HR2 HR3 QW HON
  have HU' := HU''
  clear HU''
  generalize hln : sl.length = ln at *
  replace hln := hid hln
  go_wp2_with fail
  obtain ⟨y, hy⟩ : ∃ y, w9.setCell ⟨W.heap.size, 26, none⟩ (.slice sa' ln sc') = y := ⟨_, rfl⟩
  rw [hy] at HX' HU' HR2' HR3' QW' HK'
  try rw [hy]
  clear hy x26' z26
  refine Late.wp_region_ghost [some (.agg (acC ({ x with slots := sl }) (.slice sa' ln sc'))), some (.agg (chC ({ chgB c with key := c.key, val := look x.slots c.key }))), some (.int .i64 (er)), none, none, some (.int .i64 (er))] [[], [], [], [0], [0, 1, 3], [0, 1, 2, 3, 4]] (U13 W (W.heap.size) (W2.heap.size) (W3.heap.size) (W4.heap.size) ({ x with slots := sl }) (.slice sa' ln sc') ({ chgB c with key := c.key, val := look x.slots c.key })) hmx (by kernel_rfl) (by kernel_rfl) (fun f g wa wb h hb => h.later hb) (fun f f' g g' wa h => fun hh => hh.same (h 3 rfl).1 (h 4 rfl).1) ?_ ?_
  ·exact U13.later (show U13 W (W.heap.size) (W2.heap.size) (W3.heap.size) (W4.heap.size) ({ x with slots := sl }) (.slice sa' ln sc') ({ chgB c with key := c.key, val := look x.slots c.key }) (fun _ => false) (fun _ => undef) y from ⟨QW'.out, HX'.out, HU'.out, fun _ => HR2'.out, fun h => absurd h (by simp), fun _ => HR3'.out, fun h => absurd h (by simp), HK'.out⟩) ((Below.refl _ _).drew)
  clear HR2' HR3' HU' HX' HK' QW'
  rintro f g z hU Dn
  refine GW.known _ rfl (fun hd hf => ?_) ?_
  ·have hl := hU.2.1.accLoad
   clear hU Dn hd
   go_wp2_with (refine wpList_load_known rfl _ (.tmp 2) rfl _ rfl _ hl ?_)
   exact ⟨rfl, rfl, Below.refl _ _⟩
  simp only [Act.put, sT, sS, sZ]
  refine GW.known _ rfl (fun hd hf => ?_) ?_
  ·have hl := hU.2.2.1.chLoad
   clear hU Dn hd
   go_wp2_with (refine wpList_load_known rfl _ (.tmp 7) rfl _ rfl _ hl ?_)
   exact ⟨rfl, rfl, Below.refl _ _⟩
  simp only [Act.put, sT, sS, sZ]
  refine GW.known _ rfl (fun hd hf => ?_) ?_
  ·clear hU Dn hd
   go_wp2_with fail
   exact ⟨rfl, rfl, Below.refl _ _⟩
  simp only [Act.put, sT, sS, sZ]
  refine GW.open rfl (fun hd hf => ?_) ?_
  ·have f4 : f 4 = false := (by cases h : f 4 with | false => rfl | true => exact absurd (Dn 4 h 3 (by decide)) (by rw [hf]; simp))
   have hz := hU.2.2.2.1 hf
   have hfin := fun v => hU.first hf f4 ⟨HD.out.2.1.symm, HD.out.2.2.2.2.2.2.2.1, HD.out.2.2.2.2.2.2.2.2.1, HD.out.2.2.2.2.2.2.2.2.2.2.2.1⟩ v
   have hi := accRow ({ x with slots := sl }) (.slice sa' ln sc') rfl
   clear hU Dn hd
   go_wp2_with (refine wpList_store_row rfl _ (.tmp 4) (.tmp 62) rfl _ _ rfl rfl _ _ hz hi.1 hi.2.1 hi.2.2 ?_)
   exact ⟨rfl, hfin _⟩
  simp only [Act.put]
  refine GW.open rfl (fun hd hf => ?_) ?_
  ·have f3 : f 3 = true := hd 3 (by decide)
   have hz := hU.2.2.2.2.2.1 hf
   have hfin := fun v => hU.second f3 hf ⟨HD.out.2.2.1.symm, HD.out.2.2.2.2.2.2.2.1.symm, HD.out.2.2.2.2.2.2.2.2.2.1, HD.out.2.2.2.2.2.2.2.2.2.2.2.2.1⟩ v
   have hi := chRow ({ chgB c with key := c.key, val := look x.slots c.key })
   clear hU Dn hd
   go_wp2_with (refine wpList_store_row rfl _ (.tmp 5) (.tmp 63) rfl _ _ rfl rfl _ _ hz hi.1 hi.2.1 hi.2.2 ?_)
   exact ⟨rfl, hfin _⟩
  simp only [Act.put]
  refine GW.known _ rfl (fun hd hf => ?_) ?_
  ·clear hU Dn hd
   go_wp2_with fail
   exact ⟨rfl, rfl, Below.refl _ _⟩
  simp only [Act.put, sT, sS, sZ]
  refine GW.nil (fun hall => ?_)
  have hA := hU.2.2.2.2.1 (hall 3 (by omega))
  have hB := hU.2.2.2.2.2.2.1 (hall 4 (by omega))
  have hS := hU.2.2.2.2.2.2.2
  have hQ := hU.1
  have hfin := HF.out z ({ x with slots := sl }) (.slice sa' ln sc') ({ chgB c with key := c.key, val := look x.slots c.key }) (er) EX.out EU.out EE.out hS hQ
  clear hU Dn hall hS hQ
  go_wp2_with fail
  refine bodyPost_ret (results_two rfl rfl rfl rfl hA hB) rfl ?_
  exact hfin
 ·-- another kind
  have h1 : ¬ c.kind = 1 := by rw [HKD.out]; exact h1i
  have h2 : ¬ c.kind = 2 := by rw [HKD.out]; exact h2i
  have h3 : ¬ c.kind = 3 := by rw [HKD.out]; exact h3i
  have h4 : ¬ c.kind = 4 := by rw [HKD.out]; exact h4i
  have EX := hid (show chgX x c = x from by unfold chgX; rw [if_neg h1, if_neg h2, if_neg h3, if_neg h4])
  have EU := hid (show chgU x c = chgB c from by unfold chgU; rw [if_neg h1, if_neg h2, if_neg h3, if_neg h4])
  have EE := hid (show chgE x c = 1 from by unfold chgE; rw [if_neg h1, if_neg h2, if_neg h3, if_neg h4])
  clear h1 h2 h3 h4
  have b1 : (kd == 1) = false := by simpa using h1i
  have b2 : (kd == 2) = false := by simpa using h2i
  have b3 : (kd == 3) = false := by simpa using h3i
  have b4 : (kd == 4) = false := by simpa using h4i
  go_enter Tryz.func62, Tryz.ntmps62
  go_wp2_with (first | (refine wpList_load_known rfl _ (.tmp 11) rfl _ rfl _ ha1 ?_) | (refine wpList_store_row rfl _ (.tmp 7) (.tmp 13) rfl _ _ rfl rfl _ _ h54 hi5 ho5 ha5 ?_; rw [hW6]))
  clear h1i h2i h3i h4i b1 b2 b3 b4
  clear hW1 hW2 hW3 hW4 hW5 hW6 ha1 h54 hi5 ho5 ha5 k0
  obtain ⟨y, hy⟩ : ∃ y, W6 = y := ⟨_, rfl⟩
  have HR2' := HR2
  have HR3' := HR3
  have HU' := HU
  have HX' := HX
  have QW' := QW
  clear HR2 HR3 HU HX QW HC
  have HK' := hid (show KeepS W6 (.slice sa x.slots.length sc) x.slots from HRT.out.later QW'.out)
  rw [hy] at HX' HU' HR2' HR3' QW' HK' ⊢
  clear hy
  refine Late.wp_region_ghost [some (.agg (acC (x) (.slice sa x.slots.length sc))), some (.agg (chC (chgB c))), some (.int .i64 (1)), none, none, some (.int .i64 (1))] [[], [], [], [0], [0, 1, 3], [0, 1, 2, 3, 4]] (U13 W (W.heap.size) (W2.heap.size) (W3.heap.size) (W4.heap.size) (x) (.slice sa x.slots.length sc) (chgB c)) hmx (by kernel_rfl) (by kernel_rfl) (fun f g wa wb h hb => h.later hb) (fun f f' g g' wa h => fun hh => hh.same (h 3 rfl).1 (h 4 rfl).1) ?_ ?_
  ·exact U13.later (show U13 W (W.heap.size) (W2.heap.size) (W3.heap.size) (W4.heap.size) (x) (.slice sa x.slots.length sc) (chgB c) (fun _ => false) (fun _ => undef) y from ⟨QW'.out, HX'.out, HU'.out, fun _ => HR2'.out, fun h => absurd h (by simp), fun _ => HR3'.out, fun h => absurd h (by simp), HK'.out⟩) ((Below.refl _ _).drew)
  clear HR2' HR3' HU' HX' HK' QW'
  rintro f g z hU Dn
  refine GW.known _ rfl (fun hd hf => ?_) ?_
  ·have hl := hU.2.1.accLoad
   clear hU Dn hd
   go_wp2_with (refine wpList_load_known rfl _ (.tmp 2) rfl _ rfl _ hl ?_)
   exact ⟨rfl, rfl, Below.refl _ _⟩
  simp only [Act.put, sT, sS, sZ]
  refine GW.known _ rfl (fun hd hf => ?_) ?_
  ·have hl := hU.2.2.1.chLoad
   clear hU Dn hd
   go_wp2_with (refine wpList_load_known rfl _ (.tmp 7) rfl _ rfl _ hl ?_)
   exact ⟨rfl, rfl, Below.refl _ _⟩
  simp only [Act.put, sT, sS, sZ]
  refine GW.known _ rfl (fun hd hf => ?_) ?_
  ·clear hU Dn hd
   go_wp2_with fail
   exact ⟨rfl, rfl, Below.refl _ _⟩
  simp only [Act.put, sT, sS, sZ]
  refine GW.open rfl (fun hd hf => ?_) ?_
  ·have f4 : f 4 = false := (by cases h : f 4 with | false => rfl | true => exact absurd (Dn 4 h 3 (by decide)) (by rw [hf]; simp))
   have hz := hU.2.2.2.1 hf
   have hfin := fun v => hU.first hf f4 ⟨HD.out.2.1.symm, HD.out.2.2.2.2.2.2.2.1, HD.out.2.2.2.2.2.2.2.2.1, HD.out.2.2.2.2.2.2.2.2.2.2.2.1⟩ v
   have hi := accRow (x) (.slice sa x.slots.length sc) rfl
   clear hU Dn hd
   go_wp2_with (refine wpList_store_row rfl _ (.tmp 4) (.tmp 62) rfl _ _ rfl rfl _ _ hz hi.1 hi.2.1 hi.2.2 ?_)
   exact ⟨rfl, hfin _⟩
  simp only [Act.put]
  refine GW.open rfl (fun hd hf => ?_) ?_
  ·have f3 : f 3 = true := hd 3 (by decide)
   have hz := hU.2.2.2.2.2.1 hf
   have hfin := fun v => hU.second f3 hf ⟨HD.out.2.2.1.symm, HD.out.2.2.2.2.2.2.2.1.symm, HD.out.2.2.2.2.2.2.2.2.2.1, HD.out.2.2.2.2.2.2.2.2.2.2.2.2.1⟩ v
   have hi := chRow (chgB c)
   clear hU Dn hd
   go_wp2_with (refine wpList_store_row rfl _ (.tmp 5) (.tmp 63) rfl _ _ rfl rfl _ _ hz hi.1 hi.2.1 hi.2.2 ?_)
   exact ⟨rfl, hfin _⟩
  simp only [Act.put]
  refine GW.known _ rfl (fun hd hf => ?_) ?_
  ·clear hU Dn hd
   go_wp2_with fail
   exact ⟨rfl, rfl, Below.refl _ _⟩
  simp only [Act.put, sT, sS, sZ]
  refine GW.nil (fun hall => ?_)
  have hA := hU.2.2.2.2.1 (hall 3 (by omega))
  have hB := hU.2.2.2.2.2.2.1 (hall 4 (by omega))
  have hS := hU.2.2.2.2.2.2.2
  have hQ := hU.1
  have hfin := HF.out z (x) (.slice sa x.slots.length sc) (chgB c) (1) EX.out EU.out EE.out hS hQ
  clear hU Dn hall hS hQ
  go_wp2_with fail
  refine bodyPost_ret (results_two rfl rfl rfl rfl hA hB) rfl ?_
  exact hfin
end Go.Proofs.YtkicmbdjihjgfaaGreatDoor
