/- Part. -/
import Derived.Test.YtlihnlkcgiopoaaDoorI08
import Derived.Test.YtlihnlkcgiopoaaDoorI10
import Derived.Test.YtlihnlkcgiopoaaDoorI03
import Derived.Test.YtlihnlkcgiopoaaDoorRows
import Derived.ProofKit
import Derived.LaidMore
import Derived.OpenShut
import Derived.Stop.Joined
import Derived.ChangeSame
import Derived.Below
import Derived.Deep.Slices
import Derived.ReadAgain
import Derived.Carry
import Derived.Test.YtlihnlkcgiopoaaDoorI06
import Derived.Laws.IdiomArrays
import Derived.Test.YtlihnlkcgiopoaaDoorI04
set_option maxRecDepth 100000
set_option maxHeartbeats 16000000
namespace Go.Proofs.YtlihnlkcgiopoaaDoor
section
open Go Go.RowKit
attribute [local go_sem] Oper.semAt_some Grows wide_fn eq4
theorem sumG_ext {c : Nat → Nat} {a b : ByteArray} : ∀ k, (∀ j, j < k → byG a j = byG b j) → sumG c a k = sumG c b k
 | 0, _ => rfl
 | k + 1, h => by
  show sumG c a k + c (byG a k) = sumG c b k + c (byG b k)
  rw [sumG_ext k (fun j hj => h j (by omega)), h k (by omega)]
theorem byG_left (a b : ByteArray) (j : Nat) (h : j < a.size) : byG (a ++ b) j = byG a j := by
 unfold byG
 have h' : j < a.data.size := h
 simp only [ByteArray.data_append, Array.getD_eq_getD_getElem?, Array.getElem?_append_left h']
theorem byG_right (a b : ByteArray) (j : Nat) : byG (a ++ b) (a.size + j) = byG b j := by
 unfold byG
 have h' : a.data.size ≤ a.size + j := by show a.size ≤ _; omega
 simp only [ByteArray.data_append, Array.getD_eq_getD_getElem?, Array.getElem?_append_right h']
 rw [show a.size + j - a.data.size = j by show a.size + j - a.size = j; omega]
theorem sumG_cat (c : Nat → Nat) (a b : ByteArray) : ∀ k, sumG c (a ++ b) (a.size + k) = sumG c a a.size + sumG c b k
 | 0 => by rw [Nat.add_zero]; exact sumG_ext _ (fun j hj => byG_left a b j hj)
 | k + 1 => by
  show sumG c (a ++ b) (a.size + k) + c (byG (a ++ b) (a.size + k)) = sumG c a a.size + (sumG c b k + c (byG b k))
  rw [sumG_cat c a b k, byG_right, Nat.add_assoc]
theorem dataN_cat (a b : ByteArray) : dataN (a ++ b) = dataN a + dataN b := by
 unfold dataN
 rw [ByteArray.size_append]
 exact sumG_cat costB a b b.size
theorem ddA_old : ∀ (b acc : List Ky), (∀ x ∈ b, x ∈ acc) → ddA acc b = acc
 | [], _, _ => rfl
 | k :: r, acc, h => by
  unfold ddA
  rw [if_pos (h k (by simp))]
  exact ddA_old r acc (fun x hx => h x (by simp [hx]))
theorem declN_twice (r s : List Ky) : declN (r ++ s) (s ++ r) = declN r s := by
 unfold declN ddK
 rw [ddA_app [] (r ++ s) (s ++ r), ddA_old]
 intro x hx
 rw [ddA_mem]
 rcases List.mem_append.1 hx with h | h
 ·exact .inr (List.mem_append.2 (.inr h))
 ·exact .inr (List.mem_append.2 (.inl h))
theorem costKs_ge : ∀ l : List Ky, 1900 * l.length ≤ costKs l
 | [] => Nat.le_refl _
 | k :: r => by have := costKs_ge r; rw [costKs, List.length_cons]; unfold costK; split <;> omega
theorem declN_range {r s : List Ky} (hr : r.Nodup) (hs : s.Nodup) : 1900 * r.length ≤ declN r s ∧ 1900 * s.length ≤ declN r s ∧ declN r s ≤ 2400 * (r.length + s.length) := by
 have h1 := costKs_ge (ddK (r ++ s))
 have h2 := costKs_le (ddK (r ++ s))
 have h3 := ddK_len (r ++ s)
 rw [List.length_append] at h3
 have h4 := List.Nodup.length_le_of_subset hr (fun x hx => (ddK_mem x (r ++ s)).2 (List.mem_append.2 (.inl hx)))
 have h5 := List.Nodup.length_le_of_subset hs (fun x hx => (ddK_mem x (r ++ s)).2 (List.mem_append.2 (.inr hx)))
 unfold declN
 omega
theorem kup_nodup {l : List Ky} (h : Kup l) : l.Nodup := List.Pairwise.imp (fun {a b} (hab : Kl a b) (e : a = b) => by subst e; exact Kl.irrefl a hab) h
theorem KRow.keptG {X Y : World} {base : Nat} {v : Value} {l : List Ky} {row : Option Nat} (h : KRow X base v l) (hg : X.grownBy Y row) (hne : ∀ b, v.ownBlock = some b → row ≠ some b) : KRow Y base v l := by
 refine ⟨h.1, h.2.imp id ?_⟩
 rintro ⟨g, cap, cur, e1, e2, e3, e4⟩
 exact ⟨g, cap, cur, e1, e2, (hg.block g (Array.getElem?_eq_some_iff.1 e3).1 (fun e => hne g (by rw [e1]; rfl) e.symm)).trans e3, e4⟩
theorem has_keptG {X Y : World} {B : Nat} {cs : Array Value} {row : Option Nat} (h : Has X B 30 cs) (hg : X.grownBy Y row) (hr : ∀ b, row = some b → ∃ cs, X.heap[b]? = some (.cells cs 58 (0, 0))) : Has Y B 30 cs := by
 refine (hg.block B h.lt (fun e => ?_)).trans h
 obtain ⟨c2, h2⟩ := hr B e.symm
 unfold Has at h
 rw [h] at h2
 cases h2
def UD (R : World) (r s : List Ky) (f : Nat → Bool) (g : Nat → Value) (w : World) : Prop :=
 Below R.heap.size R w ∧
 (f 2 = true → f 5 = false → KRow w R.heap.size (g 2) r) ∧
 (f 5 = true → KRow w R.heap.size (g 5) (r ++ s)) ∧
 (f 8 = true → f 11 = false → ∃ y, R.heap.size ≤ y ∧ y ≤ w.heap.size ∧ (∀ b, (g 5).ownBlock = some b → b < y) ∧ KRow w y (g 8) s) ∧
 (f 11 = true → ∃ y, R.heap.size ≤ y ∧ KRow w y (g 11) (s ++ r)) ∧
 (f 12 = true → g 12 = .agg #[g 5, g 11]) ∧
 (f 13 = true → ∃ B, g 13 = .pointer (some ⟨B, 0, none⟩) ∧ R.heap.size ≤ B ∧ Has w B 30 (cellsIf (f 14) #[g 5, g 11] #[.slice none 0 0, .slice none 0 0]))
section
variable {R : World} {r s : List Ky} {f : Nat → Bool} {g : Nat → Value} {w w' : World}
theorem UD.later (h : UD R r s f g w) (hb : Below w.heap.size w w') : UD R r s f g w' := by
 obtain ⟨h1, h2, h3, h4, h5, h6, h7⟩ := h
 exact ⟨h1.trans (hb.mono h1.size), fun i j => (h2 i j).later hb, fun i => (h3 i).later hb, fun i j => let ⟨y, a, a2, b, c⟩ := h4 i j; ⟨y, a, Nat.le_trans a2 hb.size, b, c.later hb⟩, fun i => let ⟨y, a, b⟩ := h5 i; ⟨y, a, b.later hb⟩, h6, fun i => let ⟨B, a, b, c⟩ := h7 i; ⟨B, a, b, c.later hb⟩⟩
theorem UD.same {f' : Nat → Bool} {g' : Nat → Value} (h : UD R r s f g w) (hh : ∀ j, j = 2 ∨ j = 5 ∨ j = 8 ∨ j = 11 ∨ j = 12 ∨ j = 13 ∨ j = 14 → f j = f' j ∧ g j = g' j) : UD R r s f' g' w := by
 unfold UD at h ⊢
 rwa [(hh 2 (by omega)).1, (hh 2 (by omega)).2, (hh 5 (by omega)).1, (hh 5 (by omega)).2, (hh 8 (by omega)).1, (hh 8 (by omega)).2, (hh 11 (by omega)).1, (hh 11 (by omega)).2, (hh 12 (by omega)).1, (hh 12 (by omega)).2, (hh 13 (by omega)).1, (hh 13 (by omega)).2, (hh 14 (by omega)).1] at h
theorem UD.n2 (h : UD R r s f g w) (hb : Below w.heap.size w w') (f5 : f 5 = false) (f8 : f 8 = false) (f11 : f 11 = false) (f12 : f 12 = false) {v : Value} (hv : KRow w' R.heap.size v r) : UD R r s (upd f 2 true) (upd g 2 v) w' := by
 obtain ⟨h1, h2, h3, h4, h5, h6, h7⟩ := h.later hb
 exact ⟨h1, fun _ _ => by simpa [upd] using hv, fun i => by simp [upd, f5] at i, fun i => by simp [upd, f8] at i, fun i => by simp [upd, f11] at i, fun i => by simp [upd, f12] at i, by simpa [upd] using h7⟩
theorem UD.n5 (h : UD R r s f g w) (f2 : f 2 = true) (f5 : f 5 = false) (f8 : f 8 = false) (f11 : f 11 = false) (f12 : f 12 = false) (f14 : f 14 = false) (hg : w.grownBy w' (g 2).ownBlock) (hb : Below R.heap.size w w') {v : Value} (hv : KRow w' R.heap.size v (r ++ s)) : UD R r s (upd f 5 true) (upd g 5 v) w' := by
 obtain ⟨h1, h2, h3, h4, h5, h6, h7⟩ := h
 have k2 := h2 f2 f5
 refine ⟨h1.trans hb, fun _ i => by simp [upd] at i, fun _ => by simpa [upd] using hv, fun i => by simp [upd, f8] at i, fun i => by simp [upd, f11] at i, fun i => by simp [upd, f12] at i, fun i => ?_⟩
 obtain ⟨B, a, b, c⟩ := h7 (by simpa [upd] using i)
 rw [f14, cellsIf_false] at c
 refine ⟨B, by simpa [upd] using a, b, ?_⟩
 rw [show upd f 5 true 14 = false by simp [upd, f14], cellsIf_false]
 exact has_keptG c hg (fun b hb => (k2.blockK hb).2)
theorem UD.n8 (h : UD R r s f g w) (hb : Below w.heap.size w w') (f5 : f 5 = true) (f11 : f 11 = false) (f12 : f 12 = false) {v : Value} (hv : KRow w' w.heap.size v s) : UD R r s (upd f 8 true) (upd g 8 v) w' := by
 have k5 := h.2.2.1 f5
 have hs := h.1.size
 obtain ⟨h1, h2, h3, h4, h5, h6, h7⟩ := h.later hb
 refine ⟨h1, fun _ i => by simp [upd, f5] at i, by simpa [upd] using h3, fun _ _ => ⟨w.heap.size, hs, hb.size, fun b hb => ?_, by simpa [upd] using hv⟩, fun i => by simp [upd, f11] at i, fun i => by simp [upd, f12] at i, by simpa [upd] using h7⟩
 obtain ⟨_, cs, hc⟩ := k5.blockK (by simpa [upd] using hb)
 exact (Array.getElem?_eq_some_iff.1 hc).1
theorem UD.n11 (h : UD R r s f g w) (f5 : f 5 = true) (f8 : f 8 = true) (f11 : f 11 = false) (f12 : f 12 = false) (f14 : f 14 = false) {y : Nat} (hy : R.heap.size ≤ y) (hyb : ∀ b, (g 5).ownBlock = some b → b < y) (k8 : KRow w y (g 8) s) (hg : w.grownBy w' (g 8).ownBlock) (hb : Below y w w') {v : Value} (hv : KRow w' y v (s ++ r)) : UD R r s (upd f 11 true) (upd g 11 v) w' := by
 obtain ⟨h1, h2, h3, h4, h5, h6, h7⟩ := h
 refine ⟨h1.trans (hb.mono hy), fun _ i => by simp [upd, f5] at i, fun _ => ?_, fun _ i => by simp [upd] at i, fun _ => ⟨y, hy, by simpa [upd] using hv⟩, fun i => by simp [upd, f12] at i, fun i => ?_⟩
 ·have := (h3 f5).keptG hg (fun b hb e => by
   have h8 := (k8.blockK e).1
   have h5' := hyb b hb
   omega)
  simpa [upd] using this
 ·obtain ⟨B, a, b, c⟩ := h7 (by simpa [upd] using i)
  rw [f14, cellsIf_false] at c
  refine ⟨B, by simpa [upd] using a, b, ?_⟩
  rw [show upd f 11 true 14 = false by simp [upd, f14], cellsIf_false]
  exact has_keptG c hg (fun b hb => (k8.blockK hb).2)
theorem UD.n12 (h : UD R r s f g w) : UD R r s (upd f 12 true) (upd g 12 (.agg #[g 5, g 11])) w := by
 obtain ⟨h1, h2, h3, h4, h5, h6, h7⟩ := h
 exact ⟨h1, by simpa [upd] using h2, by simpa [upd] using h3, by simpa [upd] using h4, by simpa [upd] using h5, fun _ => by simp [upd], by simpa [upd] using h7⟩
theorem UD.n13 (h : UD R r s f g w) (f14 : f 14 = false) : UD R r s (upd f 13 true) (upd g 13 (.pointer (some ⟨w.heap.size, 0, none⟩))) (w.alloc (.cells #[.slice none 0 0, .slice none 0 0] 30)) := by
 have hs := h.1.size
 obtain ⟨h1, h2, h3, h4, h5, h6, h7⟩ := h.later (newA w (.cells #[.slice none 0 0, .slice none 0 0] 30))
 refine ⟨h1, by simpa [upd] using h2, by simpa [upd] using h3, by simpa [upd] using h4, by simpa [upd] using h5, by simpa [upd] using h6, fun _ => ⟨w.heap.size, by simp [upd], hs, ?_⟩⟩
 rw [show upd f 13 true 14 = false by simp [upd, f14], cellsIf_false]
 exact Has.new _ _ _
theorem UD.n14 (h : UD R r s f g w) (f5 : f 5 = true) (f8 : f 8 = true) (f11 : f 11 = true) (f12 : f 12 = true) {B : Nat} {v5 v11 : Value} (e5 : g 5 = v5) (e11 : g 11 = v11) (e13 : g 13 = .pointer (some ⟨B, 0, none⟩)) (hB : R.heap.size ≤ B) (hh : Has w B 30 #[.slice none 0 0, .slice none 0 0]) {v : Value} : UD R r s (upd f 14 true) (upd g 14 v) ((w.setCell ⟨B, 0, none⟩ v5).setCell ⟨B, 1, none⟩ v11) := by
 obtain ⟨h1, h2, h3, h4, h5, h6, h7⟩ := h
 have hg : ∀ (k : Nat) (u : Value) (X : World), X.grownBy (X.setCell ⟨B, k, none⟩ u) (some B) := fun k u X => ⟨rfl, rfl, rfl, by simp, fun i _ hi => Below.heap_setCell X ⟨B, k, none⟩ u i (fun e => hi (congrArg some e))⟩
 have hne : ∀ {v : Value} {y : Nat} {l : List Ky} {X : World} {cs : Array Value}, KRow X y v l → Has X B 30 cs → ∀ b, v.ownBlock = some b → (some B : Option Nat) ≠ some b := fun k hX b hb e => by
  obtain ⟨_, cs, hc⟩ := k.blockK hb
  obtain rfl := Option.some.inj e
  unfold Has at hX
  rw [hX] at hc
  cases hc
 have hk : ∀ {v : Value} {y : Nat} {l : List Ky}, KRow w y v l → KRow ((w.setCell ⟨B, 0, none⟩ v5).setCell ⟨B, 1, none⟩ v11) y v l := fun k => by
  have k1 := k.keptG (hg 0 v5 w) (hne k hh)
  exact k1.keptG (hg 1 v11 _) (hne k1 (hh.set 0 v5))
 refine ⟨(h1.setCell (p := ⟨B, 0, none⟩) hB v5).setCell (p := ⟨B, 1, none⟩) hB v11, fun _ i => by simp [upd, f5] at i, fun _ => by simpa [upd] using hk (h3 f5), fun _ i => by simp [upd, f11] at i, fun _ => let ⟨y, a, b⟩ := h5 f11; ⟨y, a, by simpa [upd] using hk b⟩, by simpa [upd] using h6, fun _ => ⟨B, by simpa [upd] using e13, hB, ?_⟩⟩
 rw [show upd f 14 true 14 = true by simp [upd], cellsIf_true, show upd g 14 v 5 = v5 by simpa [upd] using e5, show upd g 14 v 11 = v11 by simpa [upd] using e11]
 exact (hh.set 0 v5).set 1 v11
end
theorem data_any (w : World) (sx sy : ByteArray) (hsx : sx.size ≤ 140737488355328) (hsy : sy.size ≤ 140737488355328) (v1 v2 : Value) (z1 z2 : List (Int × Int)) (h1 : RawAt w v1 z1) (h2 : RawAt w v2 z2) :
  Calls Tryd.prog 6 #[.string sx, .string sy, .agg #[v1, v2]] w fun e w' => e = .returned (.bool true) ∧ Below w.heap.size w w' := by
 have hmx : Tryd.prog.follows .mixedOrders = true := by kernel_rfl
 obtain ⟨ra, rc, rfl, _, _⟩ := id h1
 obtain ⟨sa, sc, rfl, _, _⟩ := id h2
 have HR1 := hid h1
 have HR2 := hid h2
 generalize z1.length = l1 at *
 generalize z2.length = l2 at *
 -- the texts
 obtain ⟨m1, hm1⟩ : ∃ m1 : Int, (if 200 < (sx.size : Int) then 200 else (sx.size : Int)) = m1 := ⟨_, rfl⟩
 obtain ⟨m2, hm2⟩ : ∃ m2 : Int, (if 200 < (sy.size : Int) then 200 else (sy.size : Int)) = m2 := ⟨_, rfl⟩
 have b1 : 0 ≤ m1 ∧ m1 ≤ 200 ∧ m1 ≤ (sx.size : Int) := by rw [← hm1]; split <;> omega
 have b2 : 0 ≤ m2 ∧ m2 ≤ 200 ∧ m2 ≤ (sy.size : Int) := by rw [← hm2]; split <;> omega
 obtain ⟨xs, hxs⟩ : ∃ xs, sx.extract 0 m1.toNat = xs := ⟨_, rfl⟩
 obtain ⟨ys, hys⟩ : ∃ ys, sy.extract 0 m2.toNat = ys := ⟨_, rfl⟩
 have zx : xs.size ≤ 200 := by rw [← hxs, ByteArray.size_extract]; omega
 have zy : ys.size ≤ 200 := by rw [← hys, ByteArray.size_extract]; omega
 have T1 := start_ret xs (by omega) false
 have T2 := start_ret ys (by omega) false
 have T3 := start_ret (xs ++ ys) (by rw [ByteArray.size_append]; omega) false
 have T4 := start_ret xs (by omega) true
 have i1 := init_ret (xs.size : Int) false
 have i2 := init_ret (xs.size : Int) true
 have i3 := hash_retG (xs.size : Int)
 have i4 := copy_retG (xs.size : Int)
 have i5 := copy_retG (((xs ++ ys).size : Nat) : Int)
 have w1 : wordsN (xs.size : Int) = ((xs.size : Int) + 31) / 32 := by unfold wordsN; rw [manyN_in (by omega) (by omega)]
 have w2 : wordsN (((xs ++ ys).size : Nat) : Int) = ((xs.size : Int) + (ys.size : Int) + 31) / 32 := by rw [ByteArray.size_append]; unfold wordsN; rw [manyN_in (by omega) (by omega), Int.natCast_add]
 have g1 := dataN_le xs (by omega)
 have g2 := dataN_le ys (by omega)
 unfold startN at T1 T2 T3 T4
 rw [dataN_cat] at T3
 simp only [Bool.false_eq_true, if_false, if_true, Int.add_zero, Int.natCast_add] at T1 T2 T3 T4
 unfold initN at T4 i1 i2
 simp only [Bool.false_eq_true, if_false, if_true, Int.add_zero] at T4 i1 i2
 rw [w1] at T4 i1 i2 i3 i4
 rw [w2] at i5
 obtain ⟨d1, hd1⟩ : ∃ d : Int, (dataN xs : Int) = d := ⟨_, rfl⟩
 obtain ⟨d2, hd2⟩ : ∃ d : Int, (dataN ys : Int) = d := ⟨_, rfl⟩
 rw [hd1] at T1 T3 T4
 rw [hd2] at T2 T3
 have bd : (0 ≤ d1 ∧ d1 ≤ 52428800) ∧ (0 ≤ d2 ∧ d2 ≤ 52428800) := by omega
 obtain ⟨q1, hq1⟩ : ∃ q : Int, ((xs.size : Int) + 31) / 32 = q := ⟨_, rfl⟩
 obtain ⟨q2, hq2⟩ : ∃ q : Int, ((xs.size : Int) + (ys.size : Int) + 31) / 32 = q := ⟨_, rfl⟩
 rw [hq1] at T4 i1 i2 i3 i4
 rw [hq2] at i5
 have bq : 0 ≤ q1 ∧ q1 ≤ q2 ∧ q2 ≤ 100 := by omega
 have sxy : (((xs ++ ys).size : Nat) : Int) = (xs.size : Int) + (ys.size : Int) := by rw [ByteArray.size_append]; omega
 rw [sxy] at i5
 have zx' : (xs.size : Int) ≤ 200 := by omega
 have zy' : (ys.size : Int) ≤ 200 := by omega
 have HT1 := hid T1
 have HT2 := hid T2
 have HT3 := hid T3
 have HT4 := hid T4
 have HI1 := hid i1
 have HI2 := hid i2
 have HI3 := hid i3
 have HI4 := hid i4
 have HI5 := hid i5
 have HK := hid awakeG_ret
 obtain ⟨⟨c1, c2⟩, ⟨c3, c4⟩⟩ := bd
 obtain ⟨c5, c6, c7⟩ := bq
 obtain ⟨c8, c9, c10⟩ := b1
 obtain ⟨c11, c12, c13⟩ := b2
 have c14 : q1 ≤ 100 := by omega
 have c15 : 0 ≤ q2 := by omega
 have HSXY := hid sxy
 clear T1 T2 T3 T4 i1 i2 i3 i4 i5 w1 w2 g1 g2 hd1 hd2 hq1 hq2 sxy zx zy
 -- the sets
 have nr : (setN z1).Nodup := kup_nodup (setL_up _)
 have ns : (setN z2).Nodup := kup_nodup (setL_up _)
 have lr : (setN z1).length ≤ 15 := Nat.le_trans (setL_len _) (keysN_len z1)
 have ls : (setN z2).length ≤ 15 := Nat.le_trans (setL_len _) (keysN_len z2)
 have dr := declN_range nr ns
 have HTW := hid (declN_twice (setN z1) (setN z2))
 have HST := hid (fun (X : World) (hX : Below w.heap.size w X) => sets10_any X _ _ z1 z2 (HR1.out.later hX) (HR2.out.later hX))
 generalize setN z1 = r at *
 generalize setN z2 = s at *
 obtain ⟨D, hD⟩ : ∃ D : Nat, declN r s = D := ⟨_, rfl⟩
 rw [hD] at dr
 have HD := hid hD
 obtain ⟨rn, hrn⟩ : ∃ rn, r.length = rn := ⟨_, rfl⟩
 obtain ⟨sn, hsn⟩ : ∃ sn, s.length = sn := ⟨_, rfl⟩
 have HRN := hid (And.intro hrn lr)
 have HSN := hid (And.intro hsn ls)
 rw [hrn, hsn] at dr
 rw [hrn] at lr
 rw [hsn] at ls
 obtain ⟨e1, e2, e3⟩ := dr
 have e4 : 1900 * (rn : Int) ≤ (D : Int) := by omega
 have e5 : 1900 * (sn : Int) ≤ (D : Int) := by omega
 have e6 : (D : Int) ≤ 2400 * ((rn : Int) + (sn : Int)) := by omega
 have e7 : (rn : Int) ≤ 15 := by omega
 have e8 : (sn : Int) ≤ 15 := by omega
 have e9 : (0 : Int) ≤ (D : Int) := by omega
 have e10 : (D : Int) ≤ 100000 := by omega
 obtain ⟨mx, hmxx⟩ : ∃ mx : Int, (if rn < sn then (sn : Int) else (rn : Int)) = mx := ⟨_, rfl⟩
 have e11 : 1900 * mx ≤ (D : Int) := by rw [← hmxx]; split <;> omega
 have e12 : 0 ≤ mx ∧ mx ≤ 15 := by rw [← hmxx]; split <;> omega
 obtain ⟨e13, e14⟩ := e12
 clear e1 e2 e3 hD hrn hsn nr ns lr ls h1 h2
 have Q := Below.refl w.heap.size w
 go_enter Tryd.func6, Tryd.ntmps6
 have LP := Has.new w 27 #[.slice ra l1 rc, .slice sa l2 sc]
 have k1 := LP.cell 0 _ rfl
 have k2 := LP.cell 1 _ rfl
 have Q := Q.alloc Q.size (.cells #[.slice ra l1 rc, .slice sa l2 sc] 27)
 go_wp2_with fail
 clear k1 k2
 obtain ⟨W1, hW1⟩ : ∃ W1, (w.alloc (.cells #[.slice ra l1 rc, .slice sa l2 sc] 27)) = W1 := ⟨_, rfl⟩
 rw [hW1] at LP Q ⊢
 clear hW1
 refine (HK.out _).mono ?_
 rintro e v3 ⟨rfl, q⟩
 have LP := LP.later q
 have Q := Q.trans (q.mono Q.size)
 clear q
 have k4 := LP.cell 0 _ rfl
 have k5 := LP.cell 1 _ rfl
 go_wp2_with fail
 clear k4 k5
 refine (HT1.out _).mono ?_
 rintro e v6 ⟨rfl, q⟩
 have LP := LP.later q
 have Q := Q.trans (q.mono Q.size)
 clear q
 have k7 := LP.cell 0 _ rfl
 have k8 := LP.cell 1 _ rfl
 go_wp2_with fail
 clear k7 k8
 refine (HT2.out _).mono ?_
 rintro e v9 ⟨rfl, q⟩
 have LP := LP.later q
 have Q := Q.trans (q.mono Q.size)
 clear q
 have k10 := LP.cell 0 _ rfl
 have k11 := LP.cell 1 _ rfl
 go_wp2_with fail
 clear k10 k11
 refine (HST.out _ Q).mono ?_
 rintro e w5 ⟨rv, sv, rfl, hkr, hks, q5⟩
 have Q := Q.trans (q5.mono Q.size)
 clear q5 LP
 obtain ⟨xa, xc, rfl, _, _⟩ := hkr.shape
 obtain ⟨ya, yc, rfl, _, _⟩ := hks.shape
 rw [HRN.out.1] at hkr ⊢
 rw [HSN.out.1] at hks ⊢
 have LS := Has.new w5 30 #[.slice xa rn xc, .slice ya sn yc]
 have k12 := LS.cell 0 _ rfl
 have k13 := LS.cell 1 _ rfl
 have Q := Q.alloc Q.size (.cells #[.slice xa rn xc, .slice ya sn yc] 30)
 go_wp2_with fail
 clear k12 k13
 obtain ⟨W2, hW2⟩ : ∃ W2, (w5.alloc (.cells #[.slice xa rn xc, .slice ya sn yc] 30)) = W2 := ⟨_, rfl⟩
 have hkr := hkr.later (newA w5 (.cells #[.slice xa rn xc, .slice ya sn yc] 30))
 have hks := hks.later (newA w5 (.cells #[.slice xa rn xc, .slice ya sn yc] 30))
 rw [hW2] at hkr hks
 rw [hW2] at LS Q ⊢
 clear hW2
 generalize w5.heap.size = b2 at *
 have HKR := hid hkr
 have HKS := hid hks
 clear hkr hks
 have HLA := hid (fun (Y : World) (hY : Below W2.heap.size W2 Y) => And.intro (LS.later hY) (And.intro (HKR.out.later hY) (HKS.out.later hY)))
 refine wp_region_ghost [some (.pointer (some ⟨b2, 0, none⟩)), some (.slice xa rn xc), none, some (.pointer (some ⟨b2, 1, none⟩)), some (.slice ya sn yc), none, some (.pointer (some ⟨b2, 1, none⟩)), some (.slice ya sn yc), none, some (.pointer (some ⟨b2, 0, none⟩)), some (.slice xa rn xc), none, none, none, none] [[], [0], [1], [], [3], [1, 2, 3, 4], [], [6], [1, 2, 3, 4, 5, 6, 7], [], [9], [1, 2, 3, 4, 5, 6, 7, 8, 9, 10], [1, 2, 3, 4, 5, 6, 7, 8, 9, 10, 11], [], [0, 1, 2, 3, 4, 5, 6, 7, 8, 9, 10, 11, 12, 13]] (UD W2 r s) (by kernel_rfl) (by kernel_rfl) (by kernel_rfl) ?_ ?_ ?_ ?_
 ·exact fun f g wa wb h hb => h.later hb
 ·exact fun f f' g g' wa h hu => hu.same fun j hj => h j (by rcases hj with rfl | rfl | rfl | rfl | rfl | rfl | rfl <;> rfl)
 ·exact UD.later (show UD W2 r s (fun _ => false) (fun _ => undef) W2 from ⟨Below.refl _ _, fun h => absurd h (by simp), fun h => absurd h (by simp), fun h => absurd h (by simp), fun h => absurd h (by simp), fun h => absurd h (by simp), fun h => absurd h (by simp)⟩) (Below.refl _ _).drew
 rintro f g y6 hU Dn
 refine GW.known _ rfl (fun hd hf => ?_) ?_
 ·clear hU Dn hd
  go_wp2_with fail
  exact ⟨rfl, rfl, Below.refl _ _⟩
 simp only [Act.put, sT, sS, sZ]
 refine GW.known _ rfl (fun hd hf => ?_) ?_
 ·have c := (HLA.out y6 hU.1).1.cell 0 _ rfl
  clear hU Dn hd
  go_wp2_with fail
  exact ⟨rfl, rfl, Below.refl _ _⟩
 simp only [Act.put, sT, sS, sZ]
 refine GW.open rfl (fun hd hf => ?_) ?_
 ·skip
  have f5 : f 5 = false := (by cases h : f 5 with | false => rfl | true => exact absurd (Dn 5 h 2 (by decide)) (by rw [hf]; simp))
  have f8 : f 8 = false := (by cases h : f 8 with | false => rfl | true => exact absurd (Dn 8 h 2 (by decide)) (by rw [hf]; simp))
  have f11 : f 11 = false := (by cases h : f 11 with | false => rfl | true => exact absurd (Dn 11 h 2 (by decide)) (by rw [hf]; simp))
  have f12 : f 12 = false := (by cases h : f 12 with | false => rfl | true => exact absurd (Dn 12 h 2 (by decide)) (by rw [hf]; simp))
  obtain ⟨v', w', happ, hrow, hgr, _⟩ := append_keys y6 (W2.heap.size) (.slice none 0 0) [] (World.ownsRow_nil _ _ _ _) hU.1.size _ _ (HLA.out y6 hU.1).2.1 (by simp; have := HRN.out; have := HSN.out; omega)
  rw [List.nil_append] at hrow
  have hbw : Below y6.heap.size y6 w' := ⟨hgr.os, hgr.tape, hgr.output, hgr.size, fun k hk => hgr.block k hk (by simp [Value.ownBlock])⟩
  have K := hU.n2 hbw f5 f8 f11 f12 hrow
  clear hU Dn hd hrow hbw hgr
  refine wpList_append_runK rfl (.const (.slice none 0 0)) (.tmp 38) 28 rfl _ _ _ rfl rfl happ ?_
  go_wp2
  exact ⟨rfl, K⟩
 simp only [Act.put, sT, sS, sZ]
 refine GW.known _ rfl (fun hd hf => ?_) ?_
 ·clear hU Dn hd
  go_wp2_with fail
  exact ⟨rfl, rfl, Below.refl _ _⟩
 simp only [Act.put, sT, sS, sZ]
 refine GW.known _ rfl (fun hd hf => ?_) ?_
 ·have c := (HLA.out y6 hU.1).1.cell 1 _ rfl
  clear hU Dn hd
  go_wp2_with fail
  exact ⟨rfl, rfl, Below.refl _ _⟩
 simp only [Act.put, sT, sS, sZ]
 refine GW.open rfl (fun hd hf => ?_) ?_
 ·skip
  have f8 : f 8 = false := (by cases h : f 8 with | false => rfl | true => exact absurd (Dn 8 h 5 (by decide)) (by rw [hf]; simp))
  have f11 : f 11 = false := (by cases h : f 11 with | false => rfl | true => exact absurd (Dn 11 h 5 (by decide)) (by rw [hf]; simp))
  have f12 : f 12 = false := (by cases h : f 12 with | false => rfl | true => exact absurd (Dn 12 h 5 (by decide)) (by rw [hf]; simp))
  have f14 : f 14 = false := (by cases h : f 14 with | false => rfl | true => exact absurd (Dn 14 h 5 (by decide)) (by rw [hf]; simp))
  obtain ⟨v', w', happ, hrow, hgr, hbel⟩ := append_keys y6 W2.heap.size (g 2) r (hU.2.1 (hd 2 (by decide)) hf) hU.1.size _ _ (HLA.out y6 hU.1).2.2 (by have := HRN.out; have := HSN.out; omega)
  have K := hU.n5 (hd 2 (by decide)) hf f8 f11 f12 f14 hgr hbel hrow
  clear hU Dn hd hrow hbel hgr
  refine wpList_append_runK rfl (.tmp 39) (.tmp 41) 28 rfl _ _ _ rfl rfl happ ?_
  go_wp2
  exact ⟨rfl, K⟩
 simp only [Act.put, sT, sS, sZ]
 refine GW.known _ rfl (fun hd hf => ?_) ?_
 ·clear hU Dn hd
  go_wp2_with fail
  exact ⟨rfl, rfl, Below.refl _ _⟩
 simp only [Act.put, sT, sS, sZ]
 refine GW.known _ rfl (fun hd hf => ?_) ?_
 ·have c := (HLA.out y6 hU.1).1.cell 1 _ rfl
  clear hU Dn hd
  go_wp2_with fail
  exact ⟨rfl, rfl, Below.refl _ _⟩
 simp only [Act.put, sT, sS, sZ]
 refine GW.open rfl (fun hd hf => ?_) ?_
 ·skip
  have f11 : f 11 = false := (by cases h : f 11 with | false => rfl | true => exact absurd (Dn 11 h 8 (by decide)) (by rw [hf]; simp))
  have f12 : f 12 = false := (by cases h : f 12 with | false => rfl | true => exact absurd (Dn 12 h 8 (by decide)) (by rw [hf]; simp))
  obtain ⟨v', w', happ, hrow, hgr, _⟩ := append_keys y6 (y6.heap.size) (.slice none 0 0) [] (World.ownsRow_nil _ _ _ _) (Nat.le_refl _) _ _ (HLA.out y6 hU.1).2.2 (by simp; have := HRN.out; have := HSN.out; omega)
  rw [List.nil_append] at hrow
  have hbw : Below y6.heap.size y6 w' := ⟨hgr.os, hgr.tape, hgr.output, hgr.size, fun k hk => hgr.block k hk (by simp [Value.ownBlock])⟩
  have K := hU.n8 hbw (hd 5 (by decide)) f11 f12 hrow
  clear hU Dn hd hrow hbw hgr
  refine wpList_append_runK rfl (.const (.slice none 0 0)) (.tmp 44) 28 rfl _ _ _ rfl rfl happ ?_
  go_wp2
  exact ⟨rfl, K⟩
 simp only [Act.put, sT, sS, sZ]
 refine GW.known _ rfl (fun hd hf => ?_) ?_
 ·clear hU Dn hd
  go_wp2_with fail
  exact ⟨rfl, rfl, Below.refl _ _⟩
 simp only [Act.put, sT, sS, sZ]
 refine GW.known _ rfl (fun hd hf => ?_) ?_
 ·have c := (HLA.out y6 hU.1).1.cell 0 _ rfl
  clear hU Dn hd
  go_wp2_with fail
  exact ⟨rfl, rfl, Below.refl _ _⟩
 simp only [Act.put, sT, sS, sZ]
 refine GW.open rfl (fun hd hf => ?_) ?_
 ·skip
  have f12 : f 12 = false := (by cases h : f 12 with | false => rfl | true => exact absurd (Dn 12 h 11 (by decide)) (by rw [hf]; simp))
  have f14 : f 14 = false := (by cases h : f 14 with | false => rfl | true => exact absurd (Dn 14 h 11 (by decide)) (by rw [hf]; simp))
  obtain ⟨y, hy1, hy2, hy3, k8⟩ := hU.2.2.2.1 (hd 8 (by decide)) hf
  obtain ⟨v', w', happ, hrow, hgr, hbel⟩ := append_keys y6 y (g 8) s k8 hy2 _ _ (HLA.out y6 hU.1).2.1 (by have := HRN.out; have := HSN.out; omega)
  have K := hU.n11 (hd 5 (by decide)) (hd 8 (by decide)) hf f12 f14 hy1 hy3 k8 hgr hbel hrow
  clear hU Dn hd hrow hbel hgr k8 hy3
  refine wpList_append_runK rfl (.tmp 45) (.tmp 47) 28 rfl _ _ _ rfl rfl happ ?_
  go_wp2
  exact ⟨rfl, K⟩
 simp only [Act.put, sT, sS, sZ]
 refine GW.open rfl (fun hd hf => ?_) ?_
 ·have K := hU.n12
  obtain ⟨x1, x2, e5⟩ := (hU.2.2.1 (hd 5 (by decide))).shapeK
  obtain ⟨yy, _, k11⟩ := hU.2.2.2.2.1 (hd 11 (by decide))
  obtain ⟨x3, x4, e11⟩ := k11.shapeK
  obtain ⟨n5, hn5⟩ : ∃ n, (r ++ s).length = n := ⟨_, rfl⟩
  obtain ⟨n11, hn11⟩ : ∃ n, (s ++ r).length = n := ⟨_, rfl⟩
  rw [hn5] at e5
  rw [hn11] at e11
  clear hn5 hn11
  clear hU Dn hd k11
  rw [e5, e11] at K ⊢
  go_wp2
  exact ⟨rfl, K⟩
 simp only [Act.put, sT, sS, sZ]
 refine GW.open rfl (fun hd hf => ?_) ?_
 ·skip
  have f14 : f 14 = false := (by cases h : f 14 with | false => rfl | true => exact absurd (Dn 14 h 13 (by decide)) (by rw [hf]; simp))
  have K := hU.n13 f14
  clear hU Dn hd
  go_wp2
  exact ⟨rfl, K⟩
 simp only [Act.put, sT, sS, sZ]
 refine GW.open rfl (fun hd hf => ?_) ?_
 ·obtain ⟨x1, x2, e5⟩ := (hU.2.2.1 (hd 5 (by decide))).shapeK
  obtain ⟨yy, _, k11⟩ := hU.2.2.2.2.1 (hd 11 (by decide))
  obtain ⟨x3, x4, e11⟩ := k11.shapeK
  obtain ⟨n5, hn5⟩ : ∃ n, (r ++ s).length = n := ⟨_, rfl⟩
  obtain ⟨n11, hn11⟩ : ∃ n, (s ++ r).length = n := ⟨_, rfl⟩
  rw [hn5] at e5
  rw [hn11] at e11
  clear hn5 hn11
  have e12 := hU.2.2.2.2.2.1 (hd 12 (by decide))
  obtain ⟨B, e13, hB, hh⟩ := hU.2.2.2.2.2.2 (hd 13 (by decide))
  rw [hf, cellsIf_false] at hh
  have K := fun v => hU.n14 (hd 5 (by decide)) (hd 8 (by decide)) (hd 11 (by decide)) (hd 12 (by decide)) e5 e11 e13 hB hh (v := v)
  have k0 := hh.cell 0 _ rfl
  have k1 := hh.cell 1 _ rfl
  have z0 := hh.frozen 0
  have z1 := hh.frozen 1
  rw [e12, e13, e5, e11]
  clear hU Dn hd hh k11 e12 e13 e5 e11
  go_wp2
  exact ⟨rfl, K _⟩
 simp only [Act.put]
 refine GW.nil (fun hall => ?_)
 have k5 := hU.2.2.1 (hall 5 (by omega))
 obtain ⟨yy, hyy, k11⟩ := hU.2.2.2.2.1 (hall 11 (by omega))
 obtain ⟨B, e13, hB, hh⟩ := hU.2.2.2.2.2.2 (hall 13 (by omega))
 rw [hall 14 (by omega), cellsIf_true] at hh
 obtain ⟨x1, x2, e5⟩ := k5.shapeK
 obtain ⟨x3, x4, e11⟩ := k11.shapeK
 have e12 := hU.2.2.2.2.2.1 (hall 12 (by omega))
 rw [e5] at k5 hh e12
 rw [e11] at k11 hh e12
 have KD := hid (And.intro (k5.keys (fun x hx => by rcases List.mem_append.1 hx with h | h; exact HKR.out.all x h; exact HKS.out.all x h)) (k11.keys (fun x hx => by rcases List.mem_append.1 hx with h | h; exact HKS.out.all x h; exact HKR.out.all x h)))
 rw [e13, e12, e5, e11]
 try rw [e5]
 obtain ⟨y2, hy2⟩ : ∃ x, g 2 = x := ⟨_, rfl⟩
 obtain ⟨y8, hy8⟩ : ∃ x, g 8 = x := ⟨_, rfl⟩
 rw [hy2, hy8]
 clear hy2 hy8
 have Q := Q.trans (hU.1.mono Q.size)
 have LS := LS.later hU.1
 have LD := hh
 clear e5 e11 e12 e13 hh k5 k11 Dn hall
 have HKR := hid (HKR.out.later hU.1)
 have HKS := hid (HKS.out.later hU.1)
 clear hU
 generalize (r ++ s).length = n5 at *
 generalize (s ++ r).length = n11 at *
 have k101 := LS.cell 0 _ rfl
 have k102 := LS.cell 1 _ rfl
 have k103 := LD.cell 0 _ rfl
 have k104 := LD.cell 1 _ rfl
 go_wp2_with fail
 clear k101 k102 k103 k104
 refine (declared_any _ _ _ r s HKR.out HKS.out (by rw [HRN.out.1, HSN.out.1]; have := HRN.out.2; have := HSN.out.2; rw [HRN.out.1] at *; omega)).mono ?_
 rintro e v105 ⟨rfl, q⟩
 rw [HD.out]
 have LS := LS.later q
 have LD := LD.later q
 have HKR := hid (HKR.out.later q)
 have HKS := hid (HKS.out.later q)
 have KD := hid (And.intro (KD.out.1.later q) (KD.out.2.later q))
 have Q := Q.trans (q.mono Q.size)
 clear q
 have k106 := LS.cell 0 _ rfl
 have k107 := LS.cell 1 _ rfl
 have k108 := LD.cell 0 _ rfl
 have k109 := LD.cell 1 _ rfl
 go_wp2_with fail
 clear k106 k107 k108 k109
 refine (HT3.out _).mono ?_
 rintro e v110 ⟨rfl, q⟩
 have LS := LS.later q
 have LD := LD.later q
 have HKR := hid (HKR.out.later q)
 have HKS := hid (HKS.out.later q)
 have KD := hid (And.intro (KD.out.1.later q) (KD.out.2.later q))
 have Q := Q.trans (q.mono Q.size)
 clear q
 have k111 := LS.cell 0 _ rfl
 have k112 := LS.cell 1 _ rfl
 have k113 := LD.cell 0 _ rfl
 have k114 := LD.cell 1 _ rfl
 go_wp2_with fail
 clear k111 k112 k113 k114
 refine (HT4.out _).mono ?_
 rintro e v115 ⟨rfl, q⟩
 have LS := LS.later q
 have LD := LD.later q
 have HKR := hid (HKR.out.later q)
 have HKS := hid (HKS.out.later q)
 have KD := hid (And.intro (KD.out.1.later q) (KD.out.2.later q))
 have Q := Q.trans (q.mono Q.size)
 clear q
 have k116 := LS.cell 0 _ rfl
 have k117 := LS.cell 1 _ rfl
 have k118 := LD.cell 0 _ rfl
 have k119 := LD.cell 1 _ rfl
 go_wp2_with fail
 clear k116 k117 k118 k119
 refine (HT1.out _).mono ?_
 rintro e v120 ⟨rfl, q⟩
 have LS := LS.later q
 have LD := LD.later q
 have HKR := hid (HKR.out.later q)
 have HKS := hid (HKS.out.later q)
 have KD := hid (And.intro (KD.out.1.later q) (KD.out.2.later q))
 have Q := Q.trans (q.mono Q.size)
 clear q
 have k121 := LS.cell 0 _ rfl
 have k122 := LS.cell 1 _ rfl
 have k123 := LD.cell 0 _ rfl
 have k124 := LD.cell 1 _ rfl
 go_wp2_with fail
 clear k121 k122 k123 k124
 refine (HI1.out _).mono ?_
 rintro e v125 ⟨rfl, q⟩
 have LS := LS.later q
 have LD := LD.later q
 have HKR := hid (HKR.out.later q)
 have HKS := hid (HKS.out.later q)
 have KD := hid (And.intro (KD.out.1.later q) (KD.out.2.later q))
 have Q := Q.trans (q.mono Q.size)
 clear q
 have k126 := LS.cell 0 _ rfl
 have k127 := LS.cell 1 _ rfl
 have k128 := LD.cell 0 _ rfl
 have k129 := LD.cell 1 _ rfl
 go_wp2_with fail
 clear k126 k127 k128 k129
 refine (declared_any _ _ _ (r ++ s) (s ++ r) KD.out.1 KD.out.2 (by simp; have := HRN.out; have := HSN.out; omega)).mono ?_
 rintro e v130 ⟨rfl, q⟩
 rw [HTW.out, HD.out]
 have LS := LS.later q
 have LD := LD.later q
 have HKR := hid (HKR.out.later q)
 have HKS := hid (HKS.out.later q)
 have KD := hid (And.intro (KD.out.1.later q) (KD.out.2.later q))
 have Q := Q.trans (q.mono Q.size)
 clear q
 have k131 := LS.cell 0 _ rfl
 have k132 := LS.cell 1 _ rfl
 have k133 := LD.cell 0 _ rfl
 have k134 := LD.cell 1 _ rfl
 go_wp2_with fail
 clear k131 k132 k133 k134
 refine (HI2.out _).mono ?_
 rintro e v135 ⟨rfl, q⟩
 have LS := LS.later q
 have LD := LD.later q
 have HKR := hid (HKR.out.later q)
 have HKS := hid (HKS.out.later q)
 have KD := hid (And.intro (KD.out.1.later q) (KD.out.2.later q))
 have Q := Q.trans (q.mono Q.size)
 clear q
 have k136 := LS.cell 0 _ rfl
 have k137 := LS.cell 1 _ rfl
 have k138 := LD.cell 0 _ rfl
 have k139 := LD.cell 1 _ rfl
 go_wp2_with fail
 clear k136 k137 k138 k139
 refine (HI1.out _).mono ?_
 rintro e v140 ⟨rfl, q⟩
 have LS := LS.later q
 have LD := LD.later q
 have HKR := hid (HKR.out.later q)
 have HKS := hid (HKS.out.later q)
 have KD := hid (And.intro (KD.out.1.later q) (KD.out.2.later q))
 have Q := Q.trans (q.mono Q.size)
 clear q
 have k141 := LS.cell 0 _ rfl
 have k142 := LS.cell 1 _ rfl
 have k143 := LD.cell 0 _ rfl
 have k144 := LD.cell 1 _ rfl
 go_wp2_with fail
 clear k141 k142 k143 k144
 refine (HI3.out _).mono ?_
 rintro e v145 ⟨rfl, q⟩
 have LS := LS.later q
 have LD := LD.later q
 have HKR := hid (HKR.out.later q)
 have HKS := hid (HKS.out.later q)
 have KD := hid (And.intro (KD.out.1.later q) (KD.out.2.later q))
 have Q := Q.trans (q.mono Q.size)
 clear q
 have k146 := LS.cell 0 _ rfl
 have k147 := LS.cell 1 _ rfl
 have k148 := LD.cell 0 _ rfl
 have k149 := LD.cell 1 _ rfl
 go_wp2_with fail
 clear k146 k147 k148 k149
 refine (HI5.out _).mono ?_
 rintro e v150 ⟨rfl, q⟩
 have LS := LS.later q
 have LD := LD.later q
 have HKR := hid (HKR.out.later q)
 have HKS := hid (HKS.out.later q)
 have KD := hid (And.intro (KD.out.1.later q) (KD.out.2.later q))
 have Q := Q.trans (q.mono Q.size)
 clear q
 have k151 := LS.cell 0 _ rfl
 have k152 := LS.cell 1 _ rfl
 have k153 := LD.cell 0 _ rfl
 have k154 := LD.cell 1 _ rfl
 go_wp2_with fail
 clear k151 k152 k153 k154
 refine (HI4.out _).mono ?_
 rintro e v155 ⟨rfl, q⟩
 have LS := LS.later q
 have LD := LD.later q
 have HKR := hid (HKR.out.later q)
 have HKS := hid (HKS.out.later q)
 have KD := hid (And.intro (KD.out.1.later q) (KD.out.2.later q))
 have Q := Q.trans (q.mono Q.size)
 clear q
 have hge : 3 * q1 ≤ 3 * q2 := by omega
 clear hm1 hm2 hxs hys hmxx c1 c2 c3 c4 c8 c9 c10 c11 c12 c13 e4 e5 e6 e7 e8 e9 e10 e11 e13 e14 zx' zy' hsx hsy LS LD HKR HKS KD HSXY HTW HD HRN HSN HST HR1 HR2
 go_wp2_with fail
 go_ret
 exact ⟨rfl, Q⟩
end
section
open Go Go.ChangeShapes Go.WideShapes Go.ChangeAt Go.RowKit Go.Deep
theorem cellsI64 : Tryd.prog.cellsOf 3 = 1 := by kernel_rfl
theorem cellsPairI : Tryd.prog.cellsOf 88 = 2 := by kernel_rfl
theorem trod_pairI {H : Type} {enc : TypeId × Value → H} {P : Program} {w : World} {base : Nat} {spare : Nat → Bool} {held : Bool} {t e : TypeId} {fuel : Nat} {cs : List Value} {x : DataW H × List MemPlace} (ht : P.underlying t = some (.array 2 e)) (hce : P.cellsOf e = 1) (hcs : cs.length = 2)
  (h : DataW.trod enc P w base spare held fuel t cs = some x) :
  ∃ c0 c1 y0 y1 n, cs = [c0, c1] ∧ DataW.trod enc P w base spare held n e [c0] = some y0 ∧ DataW.trod enc P w base spare held n e [c1] = some y1 := by
 match cs, hcs with
 | [c0, c1], _ =>
  cases fuel with
  | zero => simp [DataW.trod] at h
  | succ n =>
   unfold DataW.trod at h
   rw [ht] at h
   have r2 : List.range 2 = [0, 1] := rfl
   simp [r2, hce] at h
   obtain ⟨_, h⟩ := h
   cases h0 : DataW.trod enc P w base spare held n e [c0] with
   | none => simp [h0] at h
   | some y0 =>
    cases h1 : DataW.trod enc P w base spare held n e [c1] with
    | none => simp [h0, h1] at h
    | some y1 => exact ⟨c0, c1, y0, y1, n, rfl, h0, h1⟩
theorem laidOutAll : laidOutB Tryd.prog = true := by kernel_rfl
theorem trodAll_below {H : Type} {enc : TypeId × Value → H} {W W' : World} (hb : Below W.heap.size W W') : ∀ {ts : List TypeId} {vs : List Value} {ds : List (DataW H)} {ps : List MemPlace},
  (∀ t ∈ ts, Tryd.prog.readableRec t = true ∧ t < Tryd.prog.types.size) → DataW.TrodAll enc Tryd.prog W 0 (fun _ => true) true ts vs ds ps → (∀ x ∈ ps, x.block < W.heap.size) →
  DataW.TrodAll enc Tryd.prog W' 0 (fun b => decide (b < W.heap.size)) true ts vs ds ps
 | [], [], [], _, _, h, _ => h
 | _ :: _, _ :: _, _ :: _, _, ht, ⟨p, q, h1, h2, e⟩, hs =>
  ⟨p, q, Below.trod laidOutAll (ht _ (List.mem_cons.2 (Or.inl rfl))).1 (ht _ (List.mem_cons.2 (Or.inl rfl))).2 h1 hb (fun x hx => hs x (by rw [e]; exact List.mem_append_left _ hx)),
   trodAll_below hb (fun t h => ht t (List.mem_cons.2 (Or.inr h))) h2 (fun x hx => hs x (by rw [e]; exact List.mem_append_right _ hx)), e⟩
theorem post_read {H : Type} {enc : TypeId × Value → H} {f : Func} {s : ChangeSpec} {W W' : World} {args : Array Value} {ds : List (DataW H)} {before : List MemPlace}
  (hW : DataW.Whole enc Tryd.prog f.params.toList s.vars false W args.toList ds [] before) (hvars : s.vars = []) (hft : f.resultTypes = #[4])
  (hfn : s.fn H ds = { results := [.lit (.bool true)], args := ds }) (hA : DataW.TrodAll enc Tryd.prog W 0 (fun _ => true) true f.params.toList args.toList ds before)
  (hts : (f.params.toList.all fun t => Tryd.prog.readableRec t && decide (t < Tryd.prog.types.size)) = true)
  (hb : Below W.heap.size W W') : s.post enc Tryd.prog f false true false false W args (.bool true) W' := by
 have e : (s.fn H (ds ++ [])) = { results := [.lit (.bool true)], args := ds } := by rw [List.append_nil]; exact hfn
 refine ⟨ds, [], before, [], before, [], hW, ?_, ?_, ?_, World.keptBut_mono (fun p hp => absurd hp (by simp)) (hb.frame (fun _ => False)), fun h => by cases h⟩
 ·rw [e, hft]
  exact trodAll_mk1 (shut_bool Tryd.underlying4 _)
 ·rw [e]
  exact trodAll_below hb (fun t ht => by
   have := List.all_eq_true.1 hts t ht
   simpa using this) hA (fun x hx => by simpa using hW.lt x hx)
 ·rw [e, hvars]
  rfl
end
section
open Go Go.ChangeShapes Go.WideShapes Go.ChangeAt Go.RowKit Go.Deep
set_option maxRecDepth 100000
theorem cellsRaws : Tryd.prog.cellsOf 26 = 1 := by kernel_rfl
theorem cellsRaw2 : Tryd.prog.cellsOf 27 = 2 := by kernel_rfl
theorem raw_of_trod {H : Type} {enc : TypeId × Value → H} {W : World} {b : Nat} {sp : Nat → Bool} {held : Bool} {fuel : Nat} {v : Value} {x : DataW H × List MemPlace}
  (hf : DataW.trod enc Tryd.prog W b sp held fuel 26 [v] = some x) : ∃ zs, RawAt W v zs := by
 rcases open_slice Tryd.underlying26 hf with ⟨hcs, _⟩ | ⟨a, len, cap, m, n, D, Pl, hcs, _, hl, hm, hmm, _, hi⟩
 ·injection hcs with hcs _
  subst hcs
  exact ⟨[], none, 0, rfl, by simp, by simp, fun i p hp => by simp at hp⟩
 ·injection hcs with hcs _
  subst hcs
  have hlm : len ≤ m := by rw [hmm]; split <;> omega
  have key : ∀ i, i < len → ∃ p : Int × Int, I64 p.1 ∧ I64 p.2 ∧ W.cell? (a.add (i * 2)) = some (.int .i64 p.1) ∧ W.cell? ((a.add (i * 2)).add 1) = some (.int .i64 p.2) := by
   intro i hil
   obtain ⟨cs', hc, ht⟩ := hi i (by omega)
   rw [cellsPairI] at hc
   obtain ⟨_, hcl, hat⟩ := World.cells?_some hc
   obtain ⟨c0, c1, y0, y1, n', rfl, t0, t1⟩ := trod_pairI Tryd.underlying88 cellsI64 hcl ht
   obtain ⟨x0, e0, rfl, w0⟩ := DataW.trod_int Tryd.underlying3 t0
   obtain ⟨x1, e1, rfl, w1⟩ := DataW.trod_int Tryd.underlying3 t1
   simp at e0 e1
   subst e0 e1
   have b0 := bounds_i64 w0
   have b1 := bounds_i64 w1
   refine ⟨(x0, x1), by unfold I64; omega, by unfold I64; omega, ?_, ?_⟩
   ·have := hat 0 (by simp)
    simpa [Addr.add] using this
   ·have := hat 1 (by simp)
    simpa using this
  have hch : ∃ f : Nat → Int × Int, ∀ i, i < len → I64 (f i).1 ∧ I64 (f i).2 ∧ W.cell? (a.add (i * 2)) = some (.int .i64 (f i).1) ∧ W.cell? ((a.add (i * 2)).add 1) = some (.int .i64 (f i).2) := by
   refine ⟨fun i => if h : i < len then Classical.choose (key i h) else (0, 0), fun i h => ?_⟩
   simp only [dif_pos h]
   exact Classical.choose_spec (key i h)
  obtain ⟨f, hf'⟩ := hch
  have hmax : maxLen ≤ 9223372036854775807 := by decide
  refine ⟨(List.range len).map f, some a, cap, by simp, by simpa using hl, by omega, fun i p hp => ?_⟩
  obtain ⟨hlt, he⟩ := List.getElem?_eq_some_iff.1 hp
  simp at hlt he
  subst he
  obtain ⟨g1, g2, g3, g4⟩ := hf' i hlt
  exact ⟨g1, g2, a, rfl, g3, g4⟩
theorem open_raw2 {H : Type} {enc : TypeId × Value → H} {W : World} {base b : Nat} {sp : Nat → Bool} {held : Bool} {v : Value} {d : DataW H} {ps : List MemPlace}
  (hval : Value.okWide Tryd.prog W .any base 27 v) (hd : DataW.Trod enc Tryd.prog W b sp held 27 v d ps) : ∃ v0 v1 z0 z1, v = .agg #[v0, v1] ∧ RawAt W v0 z0 ∧ RawAt W v1 z1 := by
 obtain ⟨cs, rfl, hsz, _⟩ : ∃ cs, v = .agg cs ∧ cs.size = Tryd.prog.cellsOf 27 ∧ Row.okWide Tryd.prog W .any base 27 cs := by
  simpa [Value.okWide, Tryd.underlying27] using hval
 rw [cellsRaw2] at hsz
 obtain ⟨l⟩ := cs
 obtain ⟨v0, v1, rfl⟩ : ∃ a b, l = [a, b] := by
  match l, hsz with
  | [a, b], _ => exact ⟨a, b, rfl⟩
 obtain ⟨fuel, hf⟩ := hd
 obtain ⟨xs, m, rfl, hx, hlen, hxl, hi⟩ := DataW.trod_array Tryd.underlying27 hf
 have h0 := hi 0 (by omega)
 have h1 := hi 1 (by omega)
 rw [cellsRaws] at h0 h1
 rw [List.getElem?_eq_getElem (by omega)] at h0 h1
 obtain ⟨z0, k0⟩ := raw_of_trod (v := v0) h0
 obtain ⟨z1, k1⟩ := raw_of_trod (v := v1) h1
 exact ⟨v0, v1, z0, z1, rfl, k0, k1⟩
end
section
open Go Go.ChangeShapes Go.WideShapes Go.ChangeAt Go.RowKit Go.Deep
set_option maxRecDepth 100000
end
end Go.Proofs.YtlihnlkcgiopoaaDoor
