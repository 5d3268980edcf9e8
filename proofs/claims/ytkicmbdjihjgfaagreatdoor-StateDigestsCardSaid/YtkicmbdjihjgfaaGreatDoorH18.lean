/- Part. -/
import Derived.Test.YtkicmbdjihjgfaaGreatDoorH17
import Derived.Test.YtkicmbdjihjgfaaGreatDoorH07
import Derived.Laws.BytesArg
import Derived.Test.YtkicmbdjihjgfaaGreatDoorH16
import Derived.Laws.MakeOwn
import Derived.Test.YtkicmbdjihjgfaaGreatDoorH03
set_option maxRecDepth 100000
set_option maxHeartbeats 16000000
namespace Go.Proofs.YtkicmbdjihjgfaaGreatDoor
section
open Go Go.RowKit
attribute [local go_sem] Oper.semAt_some Grows wide_fn
def cellsB (l : List UInt8) : List Value := l.map fun b => Value.int .u8 b.toNat
theorem cellsB_append (a b : List UInt8) : cellsB (a ++ b) = cellsB a ++ cellsB b := by simp [cellsB]
theorem byteCells_list (l : List UInt8) : byteCells ⟨l.toArray⟩ = cellsB l := by simp [byteCells, cellsB]
theorem byteCells_str (s : ByteArray) : byteCells s = cellsB s.data.toList := rfl
def RowB (W : World) (base : Nat) (v : Value) (l : List UInt8) : Prop := W.ownsRow base 5 1 v l.length (cellsB l)
theorem RowB.later {A X : World} {base : Nat} {v : Value} {l : List UInt8} (h : RowB A base v l) (hb : Below A.heap.size A X) : RowB X base v l := owns_below h hb
def Newer (n : Nat) (v v' : Value) : Prop := v'.ownBlock = v.ownBlock ∨ ∀ b, v'.ownBlock = some b → n ≤ b
def preB (t : It) : List UInt8 := headI t (heldB t).length ++ t.bytes.data.toList
def BegunP (base : Nat) (v : Value) (l : List UInt8) (W : World) (e : Ending) (W' : World) : Prop :=
 ∃ v', e = .returned v' ∧ RowB W' base v' l ∧ W.grownBy W' v.ownBlock
theorem Has.row {A X : World} {B base : Nat} {t : TypeId} {cs : Array Value} (h : Has A B t cs) {v : Value} {l : List UInt8} (hr : RowB A base v l) (ht : t ≠ 5) (hg : A.grownBy X v.ownBlock) : Has X B t cs := by
 refine (hg.block B h.lt (fun e => ?_)).trans h
 rcases hr.2 with ⟨rfl, _⟩ | ⟨g, cap, cur, rfl, _, hg', _⟩
 ·simp [Value.ownBlock] at e
 ·simp [Value.ownBlock] at e
  subst e
  rw [show A.heap[B]? = _ from h] at hg'
  injection hg' with hg'
  injection hg' with _ hg' _
  exact ht hg'
theorem grown_newer {w A X : World} {v u : Value} (h : w.grownBy A v.ownBlock) (hn : Newer w.heap.size v u) (hg : A.grownBy X u.ownBlock) : w.grownBy X v.ownBlock :=
 ⟨hg.os.trans h.os, hg.tape.trans h.tape, hg.output.trans h.output, Nat.le_trans h.size hg.size, fun k hk hne => by
  refine (hg.block k (Nat.lt_of_lt_of_le hk h.size) (fun e => ?_)).trans (h.block k hk hne)
  rcases hn with h' | h'
  ·exact hne (e.trans h')
  ·have := h' k e.symm; omega⟩
theorem infoB_of : ∃ i, Tryz.prog.info? 5 = some i ∧ i.zero = some (.int .u8 0) ∧ i.size = 1 ∧ i.bytes = 1 := by
 have h := infoB
 rcases hi : Tryz.prog.info? 5 with _ | i
 ·rw [hi] at h; cases h
 ·rw [hi] at h
  injection h with h
  simp only [Prod.mk.injEq] at h
  exact ⟨i, rfl, h.1, h.2.1, h.2.2⟩
theorem begun_any (t : It) (d : Nat) (hr : RightI d t) (hsz : (encI t).length ≤ 2305843009213693952) (base : Nat) (v x : Value) (l : List UInt8) (w : World) (ht : ItemAt w t x) (hv : RowB w base v l) (hbase : base ≤ w.heap.size)
  (hb : l.length + (preB t).length ≤ 140737488355328) :
  Calls Tryz.prog 68 #[v, x] w (BegunP base v (l ++ preB t) w) := by
 have hmx : Tryz.prog.follows .mixedOrders = true := by kernel_rfl
 obtain ⟨a, cap, rfl, hn, hs, hk⟩ := ht.open
 have HH := hid (fun W (hW : Below w.heap.size w W) => held_right t d hr hsz _ W (ht.later hW))
 have HD := hid (fun W (hW : Below w.heap.size w W) => head_any t (heldB t).length (by have := enc_held hr; rw [this, List.length_append] at hsz; omega) _ W (ht.later hW))
 have hpre : l ++ preB t = (l ++ headI t (heldB t).length) ++ t.bytes.data.toList := by unfold preB; rw [List.append_assoc]
 have hpl : (preB t).length = (headI t (heldB t).length).length + t.bytes.data.toList.length := by unfold preB; rw [List.length_append]
 have hbs : t.bytes.data.toList.length = t.bytes.size := by simp
 rw [hpre]
 rw [hpl, hbs] at hb
 have Q := newA w (.cells #[.bool t.list, .string t.bytes, .slice a t.kids.length cap] 78)
 have LX := Has.new w 78 #[.bool t.list, .string t.bytes, .slice a t.kids.length cap]
 clear ht hr hsz hk hpre hpl hbs hs hn
 generalize headI t (heldB t).length = hd at *
 generalize (heldB t).length = hn at *
 generalize t.bytes = b at *
 generalize t.kids.length = n at *
 generalize t.list = tl at *
 have hstr : (⟨hd.toArray⟩ : ByteArray).size = hd.length := rfl
 go_enter Tryz.func68, Tryz.ntmps68
 go_wp2_with fail
 obtain ⟨W1, hW1⟩ : ∃ W1, w.alloc (.cells #[.bool tl, .string b, .slice a n cap] 78) = W1 := ⟨_, rfl⟩
 rw [hW1] at Q LX ⊢
 clear hW1
 have hvI := hv.later Q
 refine wp_region_ghost [some v, some (.agg #[.bool tl, .string b, .slice a n cap]), some (.agg #[.bool tl, .string b, .slice a n cap]), some (.int .i64 (hn : Int)), some (strV hd), none, some (.pointer (some ⟨w.heap.size, 1, none⟩)), some (.string b), none, none]
  [[], [], [], [2], [1, 2, 3], [0, 1, 2, 3, 4], [], [6], [0, 1, 2, 3, 4, 5, 6, 7], [0, 1, 2, 3, 4, 5, 6, 7, 8]]
  (fun f g' y => ((w.grownBy y v.ownBlock ∧ base ≤ y.heap.size) ∧ Has y w.heap.size 78 #[.bool tl, .string b, .slice a n cap]) ∧ ((f 5 = false → Below w.heap.size w y ∧ RowB y base v l) ∧ (f 5 = true → f 8 = false → RowB y base (g' 5) (l ++ hd) ∧ Newer w.heap.size v (g' 5))) ∧ ((f 8 = true → RowB y base (g' 8) (l ++ hd ++ b.data.toList)) ∧ (f 9 = true → g' 9 = g' 8)))
  (by kernel_rfl) (by kernel_rfl) (by kernel_rfl) ?_ ?_ ?_ ?_
 ·rintro f g' wa wb ⟨⟨⟨h1, h2⟩, h3⟩, ⟨h4, h5⟩, h6, h7⟩ hb
  exact ⟨⟨⟨grown_then_below h1 hb, Nat.le_trans h2 hb.size⟩, h3.later hb⟩, ⟨fun e => ⟨(h4 e).1.trans (hb.mono (h4 e).1.size), (h4 e).2.later hb⟩, fun e e' => ⟨(h5 e e').1.later hb, (h5 e e').2⟩⟩, fun e => (h6 e).later hb, h7⟩
 ·intro f f' g1 g1' wa h
  have h5 := h 5 rfl
  have h8 := h 8 rfl
  have h9 := h 9 rfl
  rw [h5.1, h5.2, h8.1, h8.2, h9.1, h9.2]
  exact id
 ·exact ⟨⟨⟨grown_of_below Q.drew _, Nat.le_trans hbase Q.size⟩, LX⟩, ⟨fun _ => ⟨Q.drew, owns_below hvI (Below.refl _ _).drew⟩, fun e => by cases e⟩, (fun e => by cases e), fun e => by cases e⟩
 rintro f g' y ⟨⟨⟨h1, h2⟩, h3⟩, ⟨h4, h5⟩, h6, h7⟩ Dn
 clear Q LX hv hvI
 have c0 := h3.cell 0 _ rfl
 have c1 := h3.cell 1 _ rfl
 have c2 := h3.cell 2 _ rfl
 replace h4 := hid h4
 replace h5 := hid h5
 replace h6 := hid h6
 replace h7 := hid h7
 replace h1 := hid h1
 replace h3 := hid h3
 refine GW.known _ rfl (fun hd' hf => ?_) ?_
 ·go_wp2
  exact ⟨rfl, rfl, Below.refl _ _⟩
 simp only [Act.put, sT, sS, sZ]
 refine GW.known _ rfl (fun hd' hf => ?_) ?_
 ·go_wp2
  exact ⟨rfl, rfl, Below.refl _ _⟩
 simp only [Act.put, sT, sS, sZ]
 refine GW.known _ rfl (fun hd' hf => ?_) ?_
 ·go_wp2
  exact ⟨rfl, rfl, Below.refl _ _⟩
 simp only [Act.put, sT, sS, sZ]
 refine GW.known _ rfl (fun hd' hf => ?_) ?_
 ·have hf5 : f 5 = false := by
   rcases h : f 5 with _ | _
   ·rfl
   ·have := Dn 5 h 3 (by decide); rw [hf] at this; cases this
  have HC := hid (HH.out y (h4.out hf5).1)
  go_wp2_with fail
  refine HC.out.mono ?_
  rintro e u ⟨rfl, hq⟩
  go_wp2
  exact ⟨rfl, rfl, hq⟩
 simp only [Act.put, sT, sS, sZ]
 refine GW.known _ rfl (fun hd' hf => ?_) ?_
 ·have hf5 : f 5 = false := by
   rcases h : f 5 with _ | _
   ·rfl
   ·have := Dn 5 h 4 (by decide); rw [hf] at this; cases this
  have HC := hid (HD.out y (h4.out hf5).1)
  go_wp2_with fail
  refine HC.out.mono ?_
  rintro e u ⟨rfl, hq⟩
  go_wp2
  exact ⟨rfl, rfl, hq⟩
 simp only [Act.put, sT, sS, sZ]
 refine GW.open rfl (fun hd' hf => ?_) ?_
 ·obtain ⟨hB, hR⟩ := h4.out hf
  have hf8 : f 8 = false := by
   rcases h : f 8 with _ | _
   ·rfl
   ·have := Dn 8 h 5 (by decide); rw [hf] at this; cases this
  have hf9 : f 9 = false := by
   rcases h : f 9 with _ | _
   ·rfl
   ·have := Dn 9 h 5 (by decide); rw [hf] at this; cases this
  obtain ⟨i, hi, hz, hsize, hby⟩ := infoB_of
  refine wpList_append_str y rfl (.tmp 5) (.tmp 9) 97 9 rfl base 5 i (.int .u8 0) Tryz.underlying97 Tryz.underlying9 hi hz hsize hby rfl v l.length (cellsB l) rfl hR ⟨hd.toArray⟩ rfl (by rw [hstr]; omega) h2 ?_
  intro v' w' k1 k2 k3
  have hrow : RowB w' base v' (l ++ hd) := by
   unfold RowB
   rw [List.length_append, cellsB_append, ← byteCells_list, ← hstr]
   exact k1
  have hnew : Newer w.heap.size v v' := by
   rcases k3 with h | h
   ·exact .inl h
   ·exact .inr (fun b hb' => by rw [h] at hb'; injection hb' with hb'; have := h1.out.size; omega)
  refine ⟨rfl, ⟨⟨⟨grown_newer (grown_of_below hB _) (.inl rfl) k2, Nat.le_trans h2 k2.size⟩, h3.out.row hR (by decide) k2⟩, ⟨fun e => absurd (show true = false from e) (by decide), fun _ _ => ⟨hrow, hnew⟩⟩, fun e => absurd ((show f 8 = true from e).symm.trans hf8) (by decide), fun e => absurd ((show f 9 = true from e).symm.trans hf9) (by decide)⟩⟩
 simp only [Act.put, sT, sS, sZ]
 refine GW.known _ rfl (fun hd' hf => ?_) ?_
 ·go_wp2
  exact ⟨rfl, rfl, Below.refl _ _⟩
 simp only [Act.put, sT, sS, sZ]
 refine GW.known _ rfl (fun hd' hf => ?_) ?_
 ·go_wp2
  exact ⟨rfl, rfl, Below.refl _ _⟩
 simp only [Act.put, sT, sS, sZ]
 refine GW.open rfl (fun hd' hf => ?_) ?_
 ·obtain ⟨hR, hN⟩ := h5.out (hd' 5 (by decide)) hf
  have hf9 : f 9 = false := by
   rcases h : f 9 with _ | _
   ·rfl
   ·have := Dn 9 h 8 (by decide); rw [hf] at this; cases this
  obtain ⟨i, hi, hz, hsize, hby⟩ := infoB_of
  refine wpList_append_str y rfl (.tmp 10) (.tmp 12) 97 9 rfl base 5 i (.int .u8 0) Tryz.underlying97 Tryz.underlying9 hi hz hsize hby rfl (g' 5) (l ++ hd).length (cellsB (l ++ hd)) rfl hR b rfl (by rw [List.length_append]; omega) h2 ?_
  intro v' w' k1 k2 k3
  have hrow : RowB w' base v' (l ++ hd ++ b.data.toList) := by
   unfold RowB
   rw [List.length_append (bs := b.data.toList), cellsB_append _ b.data.toList, ← byteCells_str, show b.data.toList.length = b.size by simp]
   exact k1
  refine ⟨rfl, ⟨⟨⟨grown_newer h1.out hN k2, Nat.le_trans h2 k2.size⟩, h3.out.row hR (by decide) k2⟩, ⟨fun e => absurd ((show f 5 = false from e).symm.trans (hd' 5 (by decide))) (by decide), fun _ e => absurd (show true = false from e) (by decide)⟩, fun _ => hrow, fun e => absurd ((show f 9 = true from e).symm.trans hf9) (by decide)⟩⟩
 simp only [Act.put, sT, sS, sZ]
 refine GW.open rfl (fun hd' hf => ?_) ?_
 ·have k8 := h6.out (hd' 8 (by decide))
  have f5 : f 5 = true := hd' 5 (by decide)
  have f8 : f 8 = true := hd' 8 (by decide)
  clear c0 c1 c2
  have HU := hid (And.intro f5 f8)
  clear f5 f8
  replace k8 := hid k8
  go_wp2
  exact ⟨rfl, ⟨⟨h1.out, h2⟩, h3.out⟩, ⟨fun e => absurd ((show f 5 = false from e).symm.trans HU.out.1) (by decide), fun _ e => absurd ((show f 8 = false from e).symm.trans HU.out.2) (by decide)⟩, fun _ => k8.out, fun _ => rfl⟩
 simp only [Act.put, sT, sS, sZ]
 refine GW.nil (fun hall => ?_)
 have k8 := h6.out (hall 8 (by decide))
 have k9 := h7.out (hall 9 (by decide))
 have k1 := h1.out
 rw [k9]
 clear h4 h5 h6 h7 h1 k9 c0 c1 c2 hall Dn
 have K := hid (show BegunP base v (l ++ hd ++ b.data.toList) w (.returned (g' 8)) y from ⟨_, rfl, k8, k1⟩)
 generalize g' 8 = g8 at *
 generalize g' 5 = g5 at *
 clear k8 k1
 go_wp2_with fail
 go_ret
 exact K.out
theorem enc_pre {d : Nat} {t : It} (h : RightI d t) : encI t = preB t ++ encL t.kids := by
 rw [enc_held h]
 unfold preB heldB
 rw [List.append_assoc]
theorem pre_enc : ∀ (t : It) (e d : Nat), RightI e t → (preI d t).flatMap (fun p => preB p.2) = encI t := by
 refine It.induct ?_
 intro t ih e d hr
 rw [preI_eq, List.flatMap_cons, enc_pre hr]
 congr 1
 have : ∀ (ks : List It), (∀ k ∈ ks, k ∈ t.kids) → (preL (d + 1) ks).flatMap (fun p => preB p.2) = encL ks := by
  intro ks
  induction ks with
  | nil => intro _; simp [preL, encL]
  | cons k ks ih2 =>
   intro hm
   rw [preL, encL, List.flatMap_append, ih k (hm k (by simp)) (e - 1) (d + 1) (right_kid hr (hm k (by simp))), ih2 (fun y hy => hm y (by simp [hy]))]
 exact this t.kids (fun _ h => h)
theorem pre_in : ∀ (t : It) (e d : Nat), RightI e t → ∀ p ∈ preI d t, ∃ e', RightI e' p.2 ∧ (encI p.2).length ≤ (encI t).length := by
 refine It.induct ?_
 intro t ih e d hr p hp
 rw [preI_eq] at hp
 rcases List.mem_cons.1 hp with rfl | hp
 ·exact ⟨e, hr, Nat.le_refl _⟩
 ·have : ∀ (ks : List It), (∀ k ∈ ks, k ∈ t.kids) → p ∈ preL (d + 1) ks → ∃ k ∈ t.kids, p ∈ preI (d + 1) k := by
   intro ks
   induction ks with
   | nil => intro _ h; simp [preL] at h
   | cons k ks ih2 =>
    intro hm h
    rw [preL] at h
    rcases List.mem_append.1 h with h | h
    ·exact ⟨k, hm k (by simp), h⟩
    ·exact ih2 (fun y hy => hm y (by simp [hy])) h
  obtain ⟨k, hk, hpk⟩ := this t.kids (fun _ h => h) hp
  obtain ⟨e', h1, h2⟩ := ih k hk (e - 1) (d + 1) (right_kid hr hk) p hpk
  exact ⟨e', h1, Nat.le_trans h2 (encI_kid hr hk)⟩
def preE (t : It) (k : Nat) : List UInt8 := ((preI 0 t).take k).flatMap (fun p => preB p.2)
theorem preE_succ {t : It} {k : Nat} {p : Nat × It} (h : (preI 0 t)[k]? = some p) : preE t (k + 1) = preE t k ++ preB p.2 := by
 unfold preE
 obtain ⟨hl, he⟩ := List.getElem?_eq_some_iff.1 h
 rw [List.take_succ_eq_append_getElem hl, List.flatMap_append, he]
 simp
theorem preE_part (t : It) (k : Nat) : (preE t k).length ≤ ((preI 0 t).flatMap (fun p => preB p.2)).length := by
 have h := List.take_append_drop k (preI 0 t)
 have h2 : (preI 0 t).flatMap (fun p => preB p.2) = preE t k ++ ((preI 0 t).drop k).flatMap (fun p => preB p.2) := by
  unfold preE
  rw [← List.flatMap_append, h]
 rw [h2, List.length_append]
 omega
theorem preE_all {t : It} {e : Nat} (hr : RightI e t) : preE t (countI t) = encI t := by
 unfold preE
 rw [List.take_of_length_le (by rw [preI_length]; omega), pre_enc t e 0 hr]
theorem RowB.ownR {A X : World} {row : Option Nat} {base : Nat} {v : Value} {l : List UInt8} (h : RowB A base v l) (hg : A.grownBy X row) (hr : ∀ r, row = some r → ∃ o : Obj, A.heap[r]? = some o ∧ o.isCells = false) : RowB X base v l := by
 refine World.ownsRow.kept h hg ?_
 rcases h.2 with ⟨rfl, _⟩ | ⟨g, cap, cur, rfl, _, hg', _⟩
 ·exact .inl rfl
 ·refine .inr (fun e => ?_)
  obtain ⟨o, ho, hc⟩ := hr g e.symm
  rw [hg'] at ho
  cases ho
  cases hc
theorem RowB.block {A : World} {base : Nat} {v : Value} {l : List UInt8} (h : RowB A base v l) {b : Nat} (hb : v.ownBlock = some b) : base ≤ b ∧ ∃ cs, A.heap[b]? = some (.cells cs 5 (0, 0)) := by
 rcases h.2 with ⟨rfl, _⟩ | ⟨g, cap, cur, rfl, hbg, hg', _⟩
 ·cases hb
 ·injection hb with hb
  subst hb
  exact ⟨hbg, cur, hg'⟩
theorem RowB.shape {A : World} {base : Nat} {v : Value} {l : List UInt8} (h : RowB A base v l) : ∃ a n c, v = .slice a n c := by
 rcases h.2 with ⟨rfl, _⟩ | ⟨g, cap, cur, rfl, _, _, _⟩
 ·exact ⟨none, 0, 0, rfl⟩
 ·exact ⟨_, _, _, rfl⟩
theorem kd_row {A X : World} {n base : Nat} {v : Value} {l : List UInt8} (h : RowB A base v l) (hg : A.grownBy X v.ownBlock) (hn : n ≤ base) (hnA : n ≤ A.heap.size) : Kd n A X :=
 ⟨⟨hg.os, hg.tape, hg.output, hg.size, fun k hk => hg.block k (by omega) (fun e => by have := (h.block e.symm).1; omega)⟩, fun b cs m hb hA => (hg.block b (Array.getElem?_eq_some_iff.1 hA).1 (fun e => by
  obtain ⟨_, cs', h'⟩ := h.block e.symm
  rw [hA] at h'
  injection h' with h'
  injection h' with _ h' _
  exact absurd h' (by decide))).trans hA⟩
theorem keeps_row {A X : World} {n base : Nat} {v : Value} {l : List UInt8} (h : RowB A base v l) (hg : A.grownBy X v.ownBlock) : KeepsFrom n A X :=
 ⟨hg.size, fun k o _ ho hc => (hg.block k (Array.getElem?_eq_some_iff.1 ho).1 (fun e => by
  obtain ⟨_, cs', h'⟩ := h.block e.symm
  rw [ho] at h'
  cases h'
  cases hc)).trans ho⟩
def GathSt (w : World) (t : It) (k : Nat) (W : World) : Prop :=
 (∃ v, Has W w.heap.size 97 #[v] ∧ RowB W w.heap.size v (preE t k)) ∧ Has W (w.heap.size + 1) 102 #[.func (.func 68) #[] #[]] ∧ Below w.heap.size w W
theorem GathSt.later {w : World} {t : It} {k : Nat} {A X : World} (h : GathSt w t k A) (hb : Below A.heap.size A X) : GathSt w t k X := by
 obtain ⟨⟨v, h1, h2⟩, h3, h4⟩ := h
 exact ⟨⟨v, h1.later hb, h2.later hb⟩, h3.later hb, h4.trans (hb.mono h4.size)⟩
theorem GathSt.own {w : World} {t : It} {n : Nat} (hn : w.heap.size ≤ n) : OwnFrom n (fun k W => GathSt w t k W) := fun k A X row hs hg hr => by
 obtain ⟨⟨v, h1, h2⟩, h3, h4⟩ := hs
 exact ⟨⟨v, h1.ownR hg (fun r e => (hr r e).2), h2.ownR hg (fun r e => (hr r e).2)⟩, h3.ownR hg (fun r e => (hr r e).2), below_ownR h4 hg hn (fun r e => (hr r e).1)⟩
def GathP (w : World) (t : It) (e : Ending) (W' : World) : Prop := ∃ v, e = .returned v ∧ RowB W' w.heap.size v (encI t) ∧ Below w.heap.size w W'
theorem gatherB_any (t : It) (d : Nat) (hr : RightI d t) (hc : countI t ≤ 1099511627776) (hsz : (encI t).length ≤ 140737488355328) (l : Bool) (b : ByteArray) (a : Option Addr) (kn cap Bx : Nat) (w0 w : World) (ht : ItemAt w0 t (.agg #[.bool l, .string b, .slice a kn cap])) (hB : Below w0.heap.size w0 w)
  (hX : Has w Bx 78 #[.bool l, .string b, .slice a kn cap]) :
  Calls Tryz.prog 66 #[.func (.func 97) #[] #[.pointer (some ⟨Bx, 0, none⟩)], .slice none 0 0, .func (.func 68) #[] #[]] w (GathP w t) := by
 have hmx : Tryz.prog.follows .mixedOrders = true := by kernel_rfl
 have HT := hid ht
 have HBB := hid hB
 have HR := hid hr
 have HCC := hid hc
 have HSZ := hid hsz
 clear ht hB hr hc hsz
 refine (callsIn_wide (n := 8)).1 ?_
 refine callsIn_of_wp_marks Tryz.func66 rfl trivial ?_ rfl
 simp only [Tryz.ntmps66, List.size_toArray, List.length_cons, List.length_nil, Nat.reduceAdd, Nat.reduceSub, Array.replicate_succ, Array.replicate_zero, List.push_toArray, List.append_toArray, List.nil_append, List.cons_append]
 have LS := (Has.new w 97 #[.slice none 0 0]).alloc (.cells #[.func (.func 68) #[] #[]] 102)
 have LF := Has.new (w.alloc (.cells #[.slice none 0 0] 97)) 102 #[.func (.func 68) #[] #[]]
 simp only [World.size_alloc] at LF
 have LX := (hX.alloc (.cells #[.slice none 0 0] 97)).alloc (.cells #[.func (.func 68) #[] #[]] 102)
 have Q := (newA w (.cells #[.slice none 0 0] 97)).alloc (by simp) (.cells #[.func (.func 68) #[] #[]] 102)
 have hs2 : ((w.alloc (.cells #[.slice none 0 0] 97)).alloc (.cells #[.func (.func 68) #[] #[]] 102)).heap.size = w.heap.size + 2 := by simp
 replace LS := hid LS
 replace LF := hid LF
 replace LX := hid LX
 replace Q := hid Q
 replace hs2 := hid hs2
 clear hX
 gi_wp2_with fail
 generalize (w.alloc (.cells #[.slice none 0 0] 97)).alloc (.cells #[.func (.func 68) #[] #[]] 102) = W2 at *
 refine wpIn_rangeFunc_C rfl (by omega) (gf := 97) (lb := #[.pointer (some ⟨Bx, 0, none⟩)]) rfl trivial (enters_of Tryz.func97 (by kernel_rfl) rfl)
  (all_seq _ t l b a kn cap Bx w0 W2 HT.out (HBB.out.trans (Q.out.mono HBB.out.size)) LX.out HCC.out) GrR.keeps Kd.trans (fun W l o o' hl h1 h2 _ => Kd.put W l o o' (by have := hs2.out; have := HBB.out.size; omega) h1 h2) (fun k args W _ hE => by obtain ⟨d', x, v', _, e, _⟩ := hE; rw [e]; rfl)
  (fun k W => GathSt w t k W) (fun _ _ _ => False) (GathSt.own (by have := hs2.out; omega)) (fun c k A X row hs hg hr => hs)
  (fun s V X hs hb => hs.later hb) (fun c s V X hs hb => hs) ⟨⟨_, LS.out, by unfold preE; simp only [List.take_zero, List.flatMap_nil]; exact World.ownsRow_nil _ _ _ _⟩, LF.out, Q.out⟩
  (fun k a' V => ∃ d' x l1 b1 a1 n1 cap1 bx, (preI 0 t)[k]? = some (d', x) ∧ ItemAt w0 x (.agg #[.bool l1, .string b1, .slice a1 n1 cap1]) ∧ Has V bx 78 #[.bool l1, .string b1, .slice a1 n1 cap1] ∧
   a' = { tmps := #[.func (.func 97) #[] #[.pointer (some ⟨Bx, 0, none⟩)], .slice none 0 0, .func (.func 68) #[] #[], undef, .pointer (some ⟨w.heap.size, 0, none⟩), .pointer (some ⟨w.heap.size + 1, 0, none⟩), .slice none 0 0, undef, .pointer (some ⟨bx, 0, none⟩), .func (.func 97) #[] #[.pointer (some ⟨Bx, 0, none⟩)], .int .i64 ((d' : Nat) : Int), .agg #[.bool l1, .string b1, .slice a1 n1 cap1], undef, undef, undef, undef, undef], defers := [] })
  (fun k a' _ X Y row hs hg hr => by
   obtain ⟨d', x, l1, b1, a1, n1, cap1, bx, h1, h2, h3, e⟩ := hs
   exact ⟨d', x, l1, b1, a1, n1, cap1, bx, h1, h2, h3.ownR hg (fun r e => (hr r e).2), e⟩) ?assign ?body ?done ?stop
 case assign =>
  intro ll k args W K hll hkN hst hE hK
  obtain ⟨d', x, v', h1, rfl, h3⟩ := hE
  obtain ⟨a1, cap1, rfl, _, _, _⟩ := h3.open
  have HST := hid hst
  have HK := hid hK
  have H3 := hid h3
  have H1 := hid h1
  clear hst hkN hK h3 h1
  have NX := Has.new W 78 #[.bool false, .string ⟨#[]⟩, .slice none 0 0]
  have x0 := NX.cell 0 _ rfl
  have x1 := NX.cell 1 _ rfl
  have x2 := NX.cell 2 _ rfl
  have f0 := NX.frozen 0
  have f1 := NX.frozen 1
  have f2 := NX.frozen 2
  replace NX := hid NX
  generalize x.list = l1 at *
  generalize x.bytes = b1 at *
  generalize x.kids.length = n1 at *
  gi_wp2_with fail
  have hg := newA W (.cells #[.bool l1, .string b1, .slice a1 n1 cap1] 78)
  exact HK.out _ _ ((KeepsOthers.alloc _ _).from _) (Kd.grow hg (Nat.le_trans HBB.out.size HST.out.2.2.size)) (HST.out.later hg) ⟨d', x, l1, b1, a1, n1, cap1, W.heap.size, H1.out, H3.out, Has.new _ _ _, rfl⟩
 case body =>
  rintro ll k a' W hl hlo hkN hst ⟨d', x, l1, b1, a1, n1, cap1, bx, h1, h2, h3, rfl⟩
  obtain ⟨⟨v, s1, s2⟩, s3, s4⟩ := hst
  obtain ⟨e', hre, hle⟩ := pre_in t d 0 HR.out (d', x) (List.mem_of_getElem? h1)
  have hsu := preE_succ h1
  have hpt := preE_part t (k + 1)
  rw [pre_enc t d 0 HR.out, hsu, List.length_append] at hpt
  have hbb := HSZ.out
  have e0 := h3.cell 0 _ rfl
  have e1 := h3.cell 1 _ rfl
  have e2 := h3.cell 2 _ rfl
  have cS := s1.cell 0 _ rfl
  have cF := s3.cell 0 _ rfl
  have HC := hid (begun_any x e' hre (by simp only at hle; omega) w.heap.size v (.agg #[.bool l1, .string b1, .slice a1 n1 cap1]) (preE t k) W (h2.later (HBB.out.trans (s4.mono HBB.out.size))) s2 s4.size (by simp only at hpt; omega))
  have hnx := hid (show preE t k ++ preB x = preE t (k + 1) from hsu.symm)
  have S1 := hid s1
  have S2 := hid s2
  have S3 := hid s3
  have S4 := hid s4
  clear h1 h2 h3 s1 s2 s3 s4 hsu hpt hbb hl hlo hkN hle hre
  gi_wp2_with fail
  refine (callsIn_free (free_round ll) HC.out).mono ?_
  rintro _ W3 ⟨v3, rfl, hrow, hgr⟩
  rw [hnx.out] at hrow
  obtain ⟨va, vn, vc, rfl⟩ := hrow.shape
  have LS3 := S1.out.row S2.out (by decide) hgr
  have LF3 := S3.out.row S2.out (by decide) hgr
  have kd3 := kd_row (n := w.heap.size) S2.out hgr (Nat.le_refl _) S4.out.size
  have Q3 := S4.out.trans kd3.1
  have c3 := LS3.cell 0 _ rfl
  have f3 := LS3.frozen 0
  have KE := hid ((keeps_row (n := W2.heap.size) S2.out hgr).trans ((KeepsOthers.setCell W3 ⟨w.heap.size, 0, none⟩ (.slice va vn vc)).from W2.heap.size))
  have KD := hid ((kd_row (n := w0.heap.size) S2.out hgr HBB.out.size (Nat.le_trans HBB.out.size S4.out.size)).trans (Kd.set (n := w0.heap.size) LS3 (by decide) HBB.out.size 0 (.slice va vn vc)))
  have ST := hid (show GathSt w t (k + 1) (W3.setCell ⟨w.heap.size, 0, none⟩ (.slice va vn vc)) from ⟨⟨_, LS3.set 0 _, by
   refine World.ownsRow.kept hrow (row := some w.heap.size) ?_ ?_
   ·exact ⟨rfl, rfl, rfl, by simp [World.setCell], fun k _ hne => Below.heap_setCell W3 ⟨w.heap.size, 0, none⟩ (.slice va vn vc) k (fun e => hne (by rw [e]))⟩
   ·refine .inr (fun e => ?_)
    obtain ⟨_, cs, hcs⟩ := hrow.block e
    rw [show W3.heap[w.heap.size]? = _ from LS3] at hcs
    injection hcs with hcs
    injection hcs with _ hcs _
    exact absurd hcs (by decide)⟩, LF3.other (by simp) _, Q3.setCell (by simp) _⟩)
  have hv3 := hid hrow
  clear hrow hgr LS3 LF3 Q3 kd3 HC hnx S1 S2 S3 S4 e0 e1 e2 cS cF
  gi_wp2_with fail
  exact ⟨KE.out, KD.out, ST.out⟩
 case done =>
  rintro D W hD hst hK
  obtain ⟨⟨v, s1, s2⟩, s3, s4⟩ := hst
  have cS := s1.cell 0 _ rfl
  rw [preE_all HR.out] at s2
  have Q3 := show Below w.heap.size w (W.putObj D (.deferred none)) from s4.trans ⟨rfl, rfl, rfl, by simp, fun k hk => World.putObj_heap_other (by have := hs2.out; omega)⟩
  have R3 : RowB (W.putObj D (.deferred none)) w.heap.size v (encI t) := RowB.ownR s2 (grownBy_putObj' W D (.deferred none)) (fun r e => by injection e with e; subst e; exact ⟨_, hK, rfl⟩)
  have K := hid (show GathP w t (.returned v) (W.putObj D (.deferred none)) from ⟨v, rfl, R3, Q3⟩)
  replace hK := hid hK
  clear s1 s2 s3 s4 Q3 R3
  gi_wp2_with fail
  refine ⟨by simp, .inl ⟨_, _, rfl, run_takeDeferred hK.out, ?_⟩⟩
  exact ⟨v, by simp [results, Tryz.results66, go_sem], K.out⟩
 case stop =>
  rintro D c k W hD hk h hK
  exact h.elim
theorem strOf_list (l : List UInt8) : strOfNums (l.map fun b => (b.toNat : Int)) = ⟨l.toArray⟩ := by
 simp [strOfNums, Function.comp_def]
theorem conv_row {W : World} {base : Nat} {v : Value} {l : List UInt8} (h : RowB W base v l) : (convert 97 9 v).run Tryz.prog W = .ok (strV l) W := by
 rcases h.2 with ⟨rfl, h0⟩ | ⟨g, cap, cur, rfl, hbg, hg, hnc, hcm, hcs, htake⟩
 ·have hl : l = [] := List.eq_nil_of_length_eq_zero h0
  subst hl
  exact run_convert_bytes_nil (P := Tryz.prog) W 97 5 Tryz.underlying97 Tryz.underlying5 0 0 9 Tryz.underlying9
 ·have := run_convert_bytes_arg (P := Tryz.prog) W 97 5 Tryz.underlying97 Tryz.underlying5 g 0 l.length cap (l.map fun b => (b.toNat : Int)) (by simp) (fun i hi => by
   have := World.ownsRow.cells h (g := g) rfl i (.int .u8 ((l.map fun b => (b.toNat : Int)).getD i 0)) (by
    unfold cellsB
    rw [List.getElem?_map, List.getElem?_eq_getElem hi]
    simp [List.getD, List.getElem?_eq_getElem hi])
   rw [Nat.zero_add]
   have ha : (⟨g, 0, none⟩ : Addr).add i = ⟨g, i, none⟩ := by unfold Addr.add; split <;> simp_all
   rw [ha] at this
   exact this) 9 Tryz.underlying9
  rw [strOf_list] at this
  exact this
noncomputable def encE (t : It) : Nat := if okI t = true then (if (encI t).length ≤ 1048576 then 0 else 2) else 1
noncomputable def encS (t : It) : List UInt8 := if encE t = 0 then encI t else []
theorem encE_bad {t : It} (h : okI t = false) : encE t = 1 := by unfold encE; rw [if_neg (by rw [h]; decide)]
theorem encE_long {t : It} (h : okI t = true) (hl : ¬ (encI t).length ≤ 1048576) : encE t = 2 := by unfold encE; rw [if_pos h, if_neg hl]
theorem encE_good {t : It} (h : okI t = true) (hl : (encI t).length ≤ 1048576) : encE t = 0 := by unfold encE; rw [if_pos h, if_pos hl]
theorem encS_good {t : It} (h : encE t = 0) : encS t = encI t := if_pos h
theorem encS_bad {t : It} (h : encE t ≠ 0) : encS t = [] := if_neg h
theorem okI_right {t : It} (h : okI t = true) : countI t ≤ 5000 ∧ RightI 16 t := by
 unfold okI at h
 rw [Bool.and_eq_true, decide_eq_true_eq, rightB_iff] at h
 exact h
theorem encode_any (t : It) (hc : countI t ≤ 1099511627776) (hsz : (encI t).length ≤ 2305843009213693952) (v : Value) (w : World) (ht : ItemAt w t v) :
  Calls Tryz.prog 45 #[v] w fun e w' => e = .returned (.tuple #[strV (encS t), .int .i64 (encE t : Int)]) ∧ Below w.heap.size w w' := by
 have hmx : Tryz.prog.follows .mixedOrders = true := by kernel_rfl
 obtain ⟨a, cap, rfl, hn, hs, hk⟩ := ht.open
 clear hk hs hn
 have HT := hid ht
 have HRT := hid (fun W (hW : Below w.heap.size w W) => right_any t _ W (ht.later hW) hc)
 have HSZ := hid (fun d (hr : RightI d t) W (hW : Below w.heap.size w W) => size_any t d hr hsz _ W (ht.later hW))
 have HGA := hid (fun (hl : (encI t).length ≤ 1048576) d (hr : RightI d t) (W : World) (hW : Below w.heap.size w W) Bx hX => gatherB_any t d hr hc (by omega) t.list t.bytes a t.kids.length cap Bx w W ht hW hX)
 have HAL := hid (all_any (.bool t.list) (.string t.bytes) (.slice a t.kids.length cap))
 have Q := newA w (.cells #[.bool t.list, .string t.bytes, .slice a t.kids.length cap] 78)
 have LX := Has.new w 78 #[.bool t.list, .string t.bytes, .slice a t.kids.length cap]
 clear ht hc hsz
 generalize t.bytes = b at *
 generalize t.kids.length = n at *
 generalize t.list = tl at *
 obtain ⟨W1, hW1⟩ : ∃ W1, w.alloc (.cells #[.bool tl, .string b, .slice a n cap] 78) = W1 := ⟨_, rfl⟩
 rw [hW1] at Q LX
 have c0 := LX.cell 0 _ rfl
 have c1 := LX.cell 1 _ rfl
 have c2 := LX.cell 2 _ rfl
 replace LX := hid LX
 replace Q := hid Q
 go_enter Tryz.func45, Tryz.ntmps45
 go_wp2_with fail
 refine (HRT.out _ Q.out).mono ?_
 rintro _ W2 ⟨rfl, q⟩
 replace LX := hid (LX.out.later q)
 replace Q := hid (Q.out.trans (q.mono Q.out.size))
 clear q c0 c1 c2 hW1 HRT
 have c0 := LX.out.cell 0 _ rfl
 have c1 := LX.out.cell 1 _ rfl
 have c2 := LX.out.cell 2 _ rfl
 rcases hok : okI t with _ | _
 ·have hE := hid (encE_bad hok)
  have hS := hid (encS_bad (t := t) (by rw [encE_bad hok]; decide))
  replace hok := hid hok
  go_wp2_with fail
  go_ret2
  exact ⟨by rw [hE.out, hS.out]; rfl, Q.out⟩
 ·obtain ⟨_, hr⟩ := okI_right hok
  have hokH := hid hok
  have HC := hid (HSZ.out 16 hr _ Q.out)
  have hL0 : (0 : Int) ≤ (((encI t).length : Nat) : Int) := Int.natCast_nonneg _
  have HRR := hid hr
  clear hok hr HSZ
  go_wp2_with fail
  refine HC.out.mono ?_
  rintro _ W3 ⟨rfl, q⟩
  replace LX := hid (LX.out.later q)
  replace Q := hid (Q.out.trans (q.mono Q.out.size))
  clear q c0 c1 c2 HC
  have c0 := LX.out.cell 0 _ rfl
  have c1 := LX.out.cell 1 _ rfl
  have c2 := LX.out.cell 2 _ rfl
  by_cases hl : (encI t).length ≤ 1048576
  ·have hE := hid (encE_good hokH.out hl)
   have hS := hid (encS_good (encE_good hokH.out hl))
   have HG := hid (HGA.out hl 16 HRR.out)
   have hlI : (((encI t).length : Nat) : Int) ≤ 1048576 := by omega
   have hb1 : decide (1048576 < (((encI t).length : Nat) : Int)) = false := by simpa using hlI
   replace hl := hid hl
   generalize (encI t).length = L at *
   go_wp2_with fail
   refine (HAL.out _).mono ?_
   rintro _ W4 ⟨rfl, hW4⟩
   have q4 : Below W3.heap.size W3 W4 := by rw [← hW4]; exact (Below.refl _ _).alloc (Nat.le_refl _) _
   have LX4 : Has W4 W3.heap.size 78 #[.bool tl, .string b, .slice a n cap] := by rw [← hW4]; exact Has.new _ _ _
   have Q4 := Q.out.trans (q4.mono Q.out.size)
   have HC := hid (HG.out W4 Q4 _ LX4)
   replace Q4 := hid Q4
   clear hW4 q4 LX4 HG HGA HAL c0 c1 c2
   go_wp2_with fail
   refine HC.out.mono ?_
   rintro _ W5 ⟨v5, rfl, hrow, hb5⟩
   have hcv := conv_row hrow
   have Q5 := hid (Q4.out.trans (hb5.mono Q4.out.size))
   rw [← hS.out] at hcv
   clear hrow hb5 HC
   go_wp2_with fail
   go_ret2
   exact ⟨by rw [hE.out]; rfl, Q5.out⟩
  ·have hE := hid (encE_long hokH.out hl)
   have hS := hid (encS_bad (t := t) (by rw [encE_long hokH.out hl]; decide))
   have hb1 : decide (1048576 < (((encI t).length : Nat) : Int)) = true := decide_eq_true (by omega)
   replace hl := hid hl
   generalize (encI t).length = L at *
   go_wp2_with fail
   go_ret2
   exact ⟨by rw [hE.out, hS.out]; rfl, Q.out⟩
end
section
open Go Go.RowKit
mutual
def ItemS (W : World) (S : Nat → Prop) : It → Value → Prop
 | .mk l b ks, v => ∃ a cap, v = .agg #[.bool l, .string b, .slice a ks.length cap] ∧ ks.length ≤ 1099511627776 ∧ b.size ≤ 140737488355328 ∧ (ks = [] ∨ ∃ g o, a = some ⟨g, o, none⟩ ∧ S g ∧ KidsS W S ks g o)
def KidsS (W : World) (S : Nat → Prop) : List It → Nat → Nat → Prop
 | [], _, _ => True
 | k :: ks, g, o => (∃ v0 v1 v2, W.cell? ⟨g, o, none⟩ = some v0 ∧ W.cell? ⟨g, o + 1, none⟩ = some v1 ∧ W.cell? ⟨g, o + 2, none⟩ = some v2 ∧ ItemS W S k (.agg #[v0, v1, v2])) ∧ KidsS W S ks g (o + 3)
end
mutual
theorem ItemS.at {W : World} {S : Nat → Prop} : ∀ {t : It} {v : Value}, ItemS W S t v → ItemAt W t v
 | .mk l b ks, v, h => by
  unfold ItemS at h
  unfold ItemAt
  obtain ⟨a, cap, hv, hn, hs, hk⟩ := h
  refine ⟨a, cap, hv, hn, hs, ?_⟩
  rcases hk with h0 | ⟨g, o, ha, _, hk⟩
  ·exact .inl h0
  ·exact .inr ⟨g, o, ha, KidsS.at hk⟩
theorem KidsS.at {W : World} {S : Nat → Prop} : ∀ {ks : List It} {g o : Nat}, KidsS W S ks g o → KidsAt W ks g o
 | [], _, _, _ => by unfold KidsAt; trivial
 | k :: ks, g, o, h => by
  unfold KidsS at h
  unfold KidsAt
  obtain ⟨⟨v0, v1, v2, h0, h1, h2, hk⟩, hr⟩ := h
  exact ⟨⟨v0, v1, v2, h0, h1, h2, ItemS.at hk⟩, KidsS.at hr⟩
end
mutual
theorem ItemS.keepC {W X : World} {S T : Nat → Prop} (hk : ∀ (b : Nat) (o : Obj), S b → W.heap[b]? = some o → o.isCells = true → X.heap[b]? = some o) (hm : ∀ b, S b → b < W.heap.size → T b) : ∀ {t : It} {v : Value}, ItemS W S t v → ItemS X T t v
 | .mk l b ks, v, h => by
  unfold ItemS at h ⊢
  obtain ⟨a, cap, hv, hn, hs, hq⟩ := h
  refine ⟨a, cap, hv, hn, hs, ?_⟩
  rcases hq with h0 | ⟨g, o, ha, hg, hq⟩
  ·exact .inl h0
  ·by_cases hks : ks = []
   ·exact .inl hks
   ·have hlt : g < W.heap.size := by
     cases ks with
     | nil => exact absurd rfl hks
     | cons k ks =>
      unfold KidsS at hq
      obtain ⟨⟨v0, _, _, h0, _⟩, _⟩ := hq
      exact ltCell h0
    exact .inr ⟨g, o, ha, hm g hg hlt, KidsS.keepC hk hm hg hq⟩
theorem KidsS.keepC {W X : World} {S T : Nat → Prop} (hk : ∀ (b : Nat) (o : Obj), S b → W.heap[b]? = some o → o.isCells = true → X.heap[b]? = some o) (hm : ∀ b, S b → b < W.heap.size → T b) : ∀ {ks : List It} {g o : Nat}, S g → KidsS W S ks g o → KidsS X T ks g o
 | [], _, _, _, _ => by unfold KidsS; trivial
 | k :: ks, g, o, hg, h => by
  unfold KidsS at h ⊢
  obtain ⟨⟨v0, v1, v2, h0, h1, h2, hq⟩, hr⟩ := h
  have e : X.heap[g]? = W.heap[g]? := by
   obtain ⟨ob, ho, hc⟩ := cell_block h0
   exact (hk g ob hg ho hc).trans ho.symm
  exact ⟨⟨v0, v1, v2, (World.cell?_of_block (a := ⟨g, o, none⟩) e).trans h0, (World.cell?_of_block (a := ⟨g, o + 1, none⟩) e).trans h1, (World.cell?_of_block (a := ⟨g, o + 2, none⟩) e).trans h2, ItemS.keepC hk hm hq⟩, KidsS.keepC hk hm hg hr⟩
end
theorem ItemS.keep {W X : World} {S T : Nat → Prop} (hk : ∀ b, S b → b < W.heap.size → X.heap[b]? = W.heap[b]?) (hm : ∀ b, S b → b < W.heap.size → T b) {t : It} {v : Value} (h : ItemS W S t v) : ItemS X T t v :=
 h.keepC (fun b o hb ho _ => (hk b hb (Array.getElem?_eq_some_iff.1 ho).1).trans ho) hm
theorem KidsS.keep {W X : World} {S T : Nat → Prop} (hk : ∀ b, S b → b < W.heap.size → X.heap[b]? = W.heap[b]?) (hm : ∀ b, S b → b < W.heap.size → T b) {ks : List It} {g o : Nat} (hg : S g) (h : KidsS W S ks g o) : KidsS X T ks g o :=
 KidsS.keepC (fun b o hb ho _ => (hk b hb (Array.getElem?_eq_some_iff.1 ho).1).trans ho) hm hg h
theorem ItemS.later {W X : World} {S : Nat → Prop} {t : It} {v : Value} (h : ItemS W S t v) (hb : Below W.heap.size W X) : ItemS X S t v := h.keep (fun b _ hl => hb.block b hl) (fun _ h _ => h)
theorem ItemS.mono {W : World} {S T : Nat → Prop} {t : It} {v : Value} (h : ItemS W S t v) (hm : ∀ b, S b → b < W.heap.size → T b) : ItemS W T t v := h.keep (fun _ _ _ => rfl) hm
theorem ItemS.open {W : World} {S : Nat → Prop} {t : It} {v : Value} (h : ItemS W S t v) :
  ∃ a cap, v = .agg #[.bool t.list, .string t.bytes, .slice a t.kids.length cap] ∧ t.kids.length ≤ 1099511627776 ∧ t.bytes.size ≤ 140737488355328 ∧ (t.kids = [] ∨ ∃ g o, a = some ⟨g, o, none⟩ ∧ S g ∧ KidsS W S t.kids g o) := by
 obtain ⟨l, b, ks⟩ := t
 unfold ItemS at h
 exact h
theorem ItemS.mk' {W : World} {S : Nat → Prop} {t : It} {a : Option Addr} {cap : Nat} (hn : t.kids.length ≤ 1099511627776) (hs : t.bytes.size ≤ 140737488355328) (hk : t.kids = [] ∨ ∃ g o, a = some ⟨g, o, none⟩ ∧ S g ∧ KidsS W S t.kids g o) :
  ItemS W S t (.agg #[.bool t.list, .string t.bytes, .slice a t.kids.length cap]) := by
 obtain ⟨l, b, ks⟩ := t
 unfold ItemS
 exact ⟨a, cap, rfl, hn, hs, hk⟩
theorem KidsS.of_get {W : World} {S : Nat → Prop} : ∀ {ks : List It} {g o : Nat}, (∀ j k, ks[j]? = some k → ∃ v0 v1 v2, W.cell? ⟨g, o + j * 3, none⟩ = some v0 ∧ W.cell? ⟨g, o + j * 3 + 1, none⟩ = some v1 ∧ W.cell? ⟨g, o + j * 3 + 2, none⟩ = some v2 ∧ ItemS W S k (.agg #[v0, v1, v2])) → KidsS W S ks g o
 | [], _, _, _ => by unfold KidsS; trivial
 | k :: ks, g, o, h => by
  unfold KidsS
  refine ⟨?_, KidsS.of_get (fun j x hx => ?_)⟩
  ·have := h 0 k rfl
   simpa using this
  ·have := h (j + 1) x (by simpa using hx)
   rw [show o + (j + 1) * 3 = o + 3 + j * 3 by omega] at this
   exact this
def KidsInS (W : World) (S : Nat → Prop) (ks : List It) (a : Option Addr) : Prop := ks = [] ∨ ∃ g o, a = some ⟨g, o, none⟩ ∧ S g ∧ KidsS W S ks g o
theorem KidsInS.at {W : World} {S : Nat → Prop} {ks : List It} {a : Option Addr} (h : KidsInS W S ks a) : KidsIn W ks a := by
 rcases h with h | ⟨g, o, e, _, h⟩
 ·exact .inl h
 ·exact .inr ⟨g, o, e, h.at⟩
theorem KidsInS.keep {W X : World} {S T : Nat → Prop} (hk : ∀ b, S b → b < W.heap.size → X.heap[b]? = W.heap[b]?) (hm : ∀ b, S b → b < W.heap.size → T b) {ks : List It} {a : Option Addr} (h : KidsInS W S ks a) : KidsInS X T ks a := by
 rcases h with h | ⟨g, o, e, hg, h⟩
 ·exact .inl h
 ·by_cases hks : ks = []
  ·exact .inl hks
  ·have hlt : g < W.heap.size := by
    cases ks with
    | nil => exact absurd rfl hks
    | cons k ks =>
     unfold KidsS at h
     obtain ⟨⟨v0, _, _, h0, _⟩, _⟩ := h
     exact ltCell h0
   exact .inr ⟨g, o, e, hm g hg hlt, h.keep hk hm hg⟩
end
section
open Go Go.RowKit
attribute [local go_sem] Oper.semAt_some Grows wide_fn
def CopyP (ks : List It) (W : World) (e : Ending) (W' : World) : Prop :=
 ∃ a cap, e = .returned (.slice a ks.length cap) ∧ KidsInS W' (fun b => W.heap.size ≤ b) ks a ∧ Below W.heap.size W W'
def CopyAt (ks : List It) : Prop := ∀ (a : Option Addr) (cap : Nat) (W : World), KidsIn W ks a → ks.length ≤ 1099511627776 → Calls Tryz.prog 100 #[.slice a ks.length cap] W (CopyP ks W)
theorem infoItem : (Tryz.prog.info? 78).map (fun i => (i.zero, i.size, i.bytes)) = some (some (.agg #[.bool false, .string ⟨#[]⟩, .slice none 0 0]), 3, 48) := by kernel_rfl
theorem infoI_of : ∃ i, Tryz.prog.info? 78 = some i ∧ i.zero = some (.agg #[.bool false, .string ⟨#[]⟩, .slice none 0 0]) ∧ i.size = 3 ∧ i.bytes = 48 := by
 have h := infoItem
 rcases hi : Tryz.prog.info? 78 with _ | i
 ·rw [hi] at h; cases h
 ·rw [hi] at h
  injection h with h
  simp only [Prod.mk.injEq] at h
  exact ⟨i, rfl, h.1, h.2.1, h.2.2⟩
theorem run_mkItems (n : Nat) (hn : n ≤ 1099511627776) (W : World) : ∃ cs : Array Value, cs.size = n * 3 ∧ (Instr.makeSlice 76 (.int .i64 (n : Int)) (.int .i64 (n : Int))).run Tryz.prog W = .ok (.slice (some ⟨W.heap.size, 0, none⟩) n n) (W.alloc (.cells cs 78)) := by
 obtain ⟨i, hi, hz, hsz, hb⟩ := infoI_of
 have h := run_make (P := Tryz.prog) W 76 78 i _ Tryz.underlying76 hi hz .i64 .i64 (n : Int) (n : Int) (by omega) (by omega) (by rw [hb]; omega) (by omega)
 simp only [Int.toNat_natCast] at h
 rw [hsz] at h
 exact ⟨_, size_madeCells _ _, h⟩
def RowI (W : World) (G n : Nat) (ks : List It) (k : Nat) : Prop :=
 ∃ cur : Array Value, Has W G 78 cur ∧ cur.size = n * 3 ∧ ∀ j x, j < k → ks[j]? = some x → ∃ v0 v1 v2, cur[j * 3]? = some v0 ∧ cur[j * 3 + 1]? = some v1 ∧ cur[j * 3 + 2]? = some v2 ∧ ItemS W (fun b => G < b) x (.agg #[v0, v1, v2])
theorem RowI.done {W : World} {G n : Nat} {ks : List It} (h : RowI W G n ks ks.length) : KidsS W (fun b => G ≤ b) ks G 0 := by
 obtain ⟨cur, h1, h2, h3⟩ := h
 refine KidsS.of_get (fun j x hx => ?_)
 obtain ⟨v0, v1, v2, e0, e1, e2, hi⟩ := h3 j x (List.getElem?_eq_some_iff.1 hx).1 hx
 refine ⟨v0, v1, v2, ?_, ?_, ?_, hi.mono (fun b hb _ => Nat.le_of_lt hb)⟩
 ·rw [Nat.zero_add]; exact h1.cell _ _ e0
 ·rw [Nat.zero_add]; exact h1.cell _ _ e1
 ·rw [Nat.zero_add]; exact h1.cell _ _ e2
theorem copy_step (ks : List It) (IH : ∀ k ∈ ks, CopyAt k.kids) : CopyAt ks := by
 intro a cap w hk hn
 have hmx : Tryz.prog.follows .mixedOrders = true := by kernel_rfl
 have HI := hid IH
 have HK := hid hk
 clear IH hk
 obtain ⟨n, en⟩ : ∃ n, ks.length = n := ⟨_, rfl⟩
 have hfin := hid (show ∀ W, RowI W w.heap.size n ks n → Below w.heap.size w W → CopyP ks w (.returned (.slice (some ⟨w.heap.size, 0, none⟩) n n)) W from fun W h1 h2 =>
  ⟨some ⟨w.heap.size, 0, none⟩, n, by rw [en], .inr ⟨w.heap.size, 0, rfl, Nat.le_refl _, RowI.done (n := n) (by rw [en]; exact h1)⟩, h2⟩)
 rw [en] at hn ⊢
 replace en := hid en
 obtain ⟨cs, hcs, hmk⟩ := run_mkItems n hn w
 have LG := Has.new w 78 cs
 have Q := newA w (.cells cs 78)
 obtain ⟨W1, hW1⟩ : ∃ W1, w.alloc (.cells cs 78) = W1 := ⟨_, rfl⟩
 rw [hW1] at LG Q hmk
 replace hcs := hid hcs
 replace LG := hid LG
 replace Q := hid Q
 replace hW1 := hid hW1
 go_enter Tryz.func100, Tryz.ntmps100
 go_wp2_with fail
 clear hmk
 go_loopw [11] (fun i wr => ∃ k : Nat, k ≤ n ∧ i = .int .i64 (k : Int) ∧ RowI wr w.heap.size n ks k ∧ Below w.heap.size w wr) (fun i _ => n - (intOf i).toNat)
 case atStart => exact ⟨0, by omega, rfl, ⟨cs, LG.out, hcs.out, fun j x hj => absurd hj (by omega)⟩, Q.out⟩
 case round =>
  clear LG Q hcs hW1
  obtain ⟨k, hkn, rfl, hrow, Q⟩ := hrel
  by_cases hk5 : k < n
  ·have hkI : (k : Int) < (n : Int) := by omega
   have hk0 : (0 : Int) ≤ (k : Int) := by omega
   obtain ⟨g, o, rfl, hK⟩ := HK.out.resolve_left (fun h => by have h2 := en.out; rw [h] at h2; simp at h2; omega)
   obtain ⟨kx, hkx⟩ : ∃ kx, ks[k]? = some kx := ⟨_, List.getElem?_eq_getElem (by have := en.out; omega)⟩
   have hm : kx ∈ ks := List.mem_of_getElem? hkx
   obtain ⟨v0, v1, v2, e0, e1, e2, hi⟩ := hK.get k _ hkx
   obtain ⟨a1, cap1, hv, hn1, hs1, hkk⟩ := hi.open
   injection hv with hv
   injection hv with hv
   injection hv with q0 hv
   injection hv with q1 hv
   injection hv with q2 hv
   subst q0 q1 q2
   replace e0 := (Q.cell (p := ⟨g, _, none⟩) (ltCell e0)).trans e0
   replace e1 := (Q.cell (p := ⟨g, _, none⟩) (ltCell e1)).trans e1
   replace e2 := (Q.cell (p := ⟨g, _, none⟩) (ltCell e2)).trans e2
   have q := newA wr (.cells #[.bool kx.list, .string kx.bytes, .slice a1 kx.kids.length cap1] 78)
   have LB := Has.new wr 78 #[.bool kx.list, .string kx.bytes, .slice a1 kx.kids.length cap1]
   have hkk' : KidsIn w kx.kids a1 := hkk
   have HC := hid (HI.out kx hm a1 cap1 _ (hkk'.later (Q.trans (q.mono Q.size))) hn1)
   have NX := Has.new wr 78 #[.bool false, .string ⟨#[]⟩, .slice none 0 0]
   have x0 := NX.cell 0 _ rfl
   have x1 := NX.cell 1 _ rfl
   have x2 := NX.cell 2 _ rfl
   have f0 := NX.frozen 0
   have f1 := NX.frozen 1
   have f2 := NX.frozen 2
   have y0 := LB.cell 0 _ rfl
   have y1 := LB.cell 1 _ rfl
   have y2 := LB.cell 2 _ rfl
   have z2 := LB.frozen 2
   have lg := ltCell e0
   have hxs := hid (And.intro hkx (And.intro hn1 hs1))
   have HE := hid (show ItemS wr (fun _ => False) (.mk true ⟨#[]⟩ []) (.agg #[.bool true, .string ⟨#[]⟩, .slice none 0 0]) from by unfold ItemS; exact ⟨none, 0, rfl, by simp, by decide, .inl rfl⟩)
   replace NX := hid NX
   replace LB := hid LB
   replace q := hid q
   replace Q := hid Q
   replace hrow := hid hrow
   clear hi hK HK hkk hkk' hkx hn1 hs1 HI hm HE
   go_wp2_with fail
   refine HC.out.mono ?_
   rintro _ W3 ⟨a3, cap3, rfl, hk3, q3⟩
   obtain ⟨cur, r1, r2, r3⟩ := hrow.out
   have hGlt := r1.lt
   have hwr3 : Below wr.heap.size wr W3 := q.out.trans (q3.mono q.out.size)
   have R3 : Has W3 w.heap.size 78 cur := r1.below hwr3 r1.lt
   have B3 : Has W3 wr.heap.size 78 #[.bool kx.list, .string kx.bytes, .slice a1 kx.kids.length cap1] := LB.out.later q3
   have hGB : w.heap.size ≠ wr.heap.size := by omega
   have y0 := B3.cell 0 _ rfl
   have y1 := B3.cell 1 _ rfl
   have y2 := B3.cell 2 _ rfl
   have z2 := B3.frozen 2
   have i0 : k * 3 < cur.size := by rw [r2]; omega
   have i1 : k * 3 + 1 < cur.size := by rw [r2]; omega
   have i2 : k * 3 + 2 < cur.size := by rw [r2]; omega
   have g0 := R3.cell (k * 3) _ (Array.getElem?_eq_getElem i0)
   have g1 := R3.cell (k * 3 + 1) _ (Array.getElem?_eq_getElem i1)
   have g2 := R3.cell (k * 3 + 2) _ (Array.getElem?_eq_getElem i2)
   have h0 := R3.frozen (k * 3)
   have h1 := R3.frozen (k * 3 + 1)
   have h2 := R3.frozen (k * 3 + 2)
   generalize cur[k * 3] = gv0 at *
   generalize cur[k * 3 + 1] = gv1 at *
   generalize cur[k * 3 + 2] = gv2 at *
   obtain ⟨W5, hW5⟩ : ∃ W5, (((W3.setCell ⟨wr.heap.size, 2, none⟩ (.slice a3 kx.kids.length cap3)).setCell ⟨w.heap.size, k * 3, none⟩ (.bool kx.list)).setCell ⟨w.heap.size, k * 3 + 1, none⟩ (.string kx.bytes)).setCell ⟨w.heap.size, k * 3 + 2, none⟩ (.slice a3 kx.kids.length cap3) = W5 := ⟨_, rfl⟩
   have hset : ∀ b, b ≠ wr.heap.size → b ≠ w.heap.size → W5.heap[b]? = W3.heap[b]? := fun b hb hb' => by
    rw [← hW5]
    exact (Below.heap_setCell _ _ _ b (by exact hb')).trans ((Below.heap_setCell _ _ _ b (by exact hb')).trans ((Below.heap_setCell _ _ _ b (by exact hb')).trans (Below.heap_setCell _ _ _ b (by exact hb))))
   have R5 : Has W5 w.heap.size 78 (((cur.setIfInBounds (k * 3) (.bool kx.list)).setIfInBounds (k * 3 + 1) (.string kx.bytes)).setIfInBounds (k * 3 + 2) (.slice a3 kx.kids.length cap3)) := by
    rw [← hW5]
    exact (((R3.other (p := ⟨wr.heap.size, 2, none⟩) hGB _).set (k * 3) _).set (k * 3 + 1) _).set (k * 3 + 2) _
   have Q5 := hid (show Below w.heap.size w W5 by
    have q0 := Q.out.trans (hwr3.mono Q.out.size)
    rw [← hW5]
    exact (((q0.setCell (p := ⟨wr.heap.size, 2, none⟩) (by simp; omega) _).setCell (p := ⟨w.heap.size, k * 3, none⟩) (Nat.le_refl _) _).setCell (p := ⟨w.heap.size, k * 3 + 1, none⟩) (Nat.le_refl _) _).setCell (p := ⟨w.heap.size, k * 3 + 2, none⟩) (Nat.le_refl _) _)
   have hK5 : ItemS W5 (fun b => w.heap.size < b) kx (.agg #[.bool kx.list, .string kx.bytes, .slice a3 kx.kids.length cap3]) := ItemS.mk' hxs.out.2.1 hxs.out.2.2 (KidsInS.keep (S := fun b => (wr.alloc (.cells #[.bool kx.list, .string kx.bytes, .slice a1 kx.kids.length cap1] 78)).heap.size ≤ b) (fun b hb _ => hset b (by simp at hb; omega) (by simp at hb; omega)) (fun b hb _ => by simp at hb; omega) hk3)
   have hrow5 := hid (show RowI W5 w.heap.size n ks (k + 1) from ⟨_, R5, by simp [r2], fun j x hj hx => by
    by_cases hjk : j = k
    ·subst hjk
     rw [hxs.out.1] at hx
     injection hx with hx
     subst hx
     refine ⟨_, _, _, ?_, ?_, ?_, hK5⟩
     ·rw [Array.getElem?_setIfInBounds_ne (by omega), Array.getElem?_setIfInBounds_ne (by omega), Array.getElem?_setIfInBounds_self_of_lt (by simpa using i0)]
     ·rw [Array.getElem?_setIfInBounds_ne (by omega), Array.getElem?_setIfInBounds_self_of_lt (by simpa using i1)]
     ·rw [Array.getElem?_setIfInBounds_self_of_lt (by simpa using i2)]
    ·obtain ⟨u0, u1, u2, t0, t1, t2, hi⟩ := r3 j x (by omega) hx
     refine ⟨u0, u1, u2, ?_, ?_, ?_, hi.keep (fun b hb hl => (hset b (by omega) (by omega)).trans (hwr3.block b hl)) (fun b hb _ => hb)⟩
     ·rw [Array.getElem?_setIfInBounds_ne (by omega), Array.getElem?_setIfInBounds_ne (by omega), Array.getElem?_setIfInBounds_ne (by omega)]; exact t0
     ·rw [Array.getElem?_setIfInBounds_ne (by omega), Array.getElem?_setIfInBounds_ne (by omega), Array.getElem?_setIfInBounds_ne (by omega)]; exact t1
     ·rw [Array.getElem?_setIfInBounds_ne (by omega), Array.getElem?_setIfInBounds_ne (by omega), Array.getElem?_setIfInBounds_ne (by omega)]; exact t2⟩)
   clear hset R5 hK5 hwr3 R3 B3 r1 r2 r3 hk3 q3 i0 i1 i2 hGlt hrow q Q HC x0 x1 x2 f0 f1 f2 NX LB hxs e0 e1 e2 lg
   replace hW5 := hid hW5
   go_wp2_with fail
   rw [hW5.out]
   exact ⟨⟨k + 1, by omega, by simp, hrow5.out, Q5.out⟩, by simp [intOf]; omega⟩
  ·obtain rfl : k = n := by omega
   have hE := hid (hfin.out _ hrow Q)
   clear hrow Q
   go_wp2_with fail
   go_ret
   exact hE.out
theorem copy_any (ks : List It) : CopyAt ks := by
 have H : ∀ t : It, CopyAt t.kids := It.induct (fun t ih => copy_step t.kids ih)
 exact H (.mk true ⟨#[]⟩ ks)
def ListP (ks : List It) (W : World) (e : Ending) (W' : World) : Prop :=
 ∃ a cap, e = .returned (.agg #[.bool true, .string ⟨#[]⟩, .slice a ks.length cap]) ∧ ItemS W' (fun b => W.heap.size ≤ b) (.mk true ⟨#[]⟩ ks) (.agg #[.bool true, .string ⟨#[]⟩, .slice a ks.length cap]) ∧ Below W.heap.size W W'
theorem list_any (ks : List It) (a : Option Addr) (cap : Nat) (w : World) (hk : KidsIn w ks a) (hn : ks.length ≤ 1099511627776) : Calls Tryz.prog 70 #[.slice a ks.length cap] w (ListP ks w) := by
 have q0 := newA w (.cells #[.bool false, .string ⟨#[]⟩, .slice none 0 0] 78)
 have HC := hid (copy_any ks a cap _ (hk.later q0) hn)
 have NX := hid (Has.new w 78 #[.bool false, .string ⟨#[]⟩, .slice none 0 0])
 replace hn := hid hn
 replace q0 := hid q0
 go_enter Tryz.func70, Tryz.ntmps70
 go_wp2_with fail
 refine HC.out.mono ?_
 rintro _ W2 ⟨a2, cap2, rfl, hk2, q2⟩
 have N2 := NX.out.later q2
 have q := q0.out.trans (q2.mono q0.out.size)
 have f0 := N2.frozen 0
 have f1 := N2.frozen 1
 have f2 := N2.frozen 2
 have x0 := N2.cell 0 _ rfl
 have x1 := N2.cell 1 _ rfl
 have x2 := N2.cell 2 _ rfl
 have S := ((N2.set 0 (.bool true)).set 1 (.string ⟨#[]⟩)).set 2 (.slice a2 ks.length cap2)
 have q5 := ((q.setCell (p := ⟨w.heap.size, 0, none⟩) (Nat.le_refl _) (.bool true)).setCell (p := ⟨w.heap.size, 1, none⟩) (Nat.le_refl _) (.string ⟨#[]⟩)).setCell (p := ⟨w.heap.size, 2, none⟩) (Nat.le_refl _) (.slice a2 ks.length cap2)
 have hI : ItemS _ (fun b => w.heap.size ≤ b) (.mk true ⟨#[]⟩ ks) (.agg #[.bool true, .string ⟨#[]⟩, .slice a2 ks.length cap2]) := ItemS.mk' (t := .mk true ⟨#[]⟩ ks) hn.out (show 0 ≤ 140737488355328 by omega) (KidsInS.keep (X := ((W2.setCell ⟨w.heap.size, 0, none⟩ (.bool true)).setCell ⟨w.heap.size, 1, none⟩ (.string ⟨#[]⟩)).setCell ⟨w.heap.size, 2, none⟩ (.slice a2 ks.length cap2)) (fun b hb _ => by
  have hne : b ≠ w.heap.size := by simp at hb; omega
  exact (Below.heap_setCell _ _ _ b hne).trans ((Below.heap_setCell _ _ _ b hne).trans (Below.heap_setCell _ _ _ b hne))) (fun b hb _ => by simp at hb; omega) hk2)
 have hE := hid (show ListP ks w (.returned (.agg #[.bool true, .string ⟨#[]⟩, .slice a2 ks.length cap2])) _ from ⟨a2, cap2, rfl, hI, q5⟩)
 clear hI q5 q q2 hk2 HC
 replace N2 := hid N2
 replace S := hid S
 generalize ks.length = n at *
 go_wp2_with fail
 have y0 := S.out.cell 0 _ rfl
 have y1 := S.out.cell 1 _ rfl
 have y2 := S.out.cell 2 _ rfl
 exact bodyPost_ret (v := .agg #[.bool true, .string ⟨#[]⟩, .slice a2 n cap2]) (by simp [results, Tryz.results70, go_sem, y0, y1, y2]) rfl hE.out
end
section
open Go Go.RowKit
def flat3 (vs : List (Value × Value × Value)) : List Value := vs.flatMap fun v => [v.1, v.2.1, v.2.2]
theorem flat3_append (a b : List (Value × Value × Value)) : flat3 (a ++ b) = flat3 a ++ flat3 b := by simp [flat3]
theorem flat3_length : ∀ (vs : List (Value × Value × Value)), (flat3 vs).length = vs.length * 3
 | [] => rfl
 | v :: vs => by
  have := flat3_length vs
  simp only [flat3, List.flatMap_cons, List.length_append, List.length_cons, List.length_nil] at this ⊢
  omega
theorem flat3_at : ∀ (vs : List (Value × Value × Value)) (j : Nat) (v : Value × Value × Value), vs[j]? = some v → (flat3 vs)[j * 3]? = some v.1 ∧ (flat3 vs)[j * 3 + 1]? = some v.2.1 ∧ (flat3 vs)[j * 3 + 2]? = some v.2.2
 | [], j, v, h => by simp at h
 | x :: vs, 0, v, h => by
  simp at h
  subst h
  simp [flat3]
 | x :: vs, j + 1, v, h => by
  have := flat3_at vs j v (by simpa using h)
  have e : flat3 (x :: vs) = [x.1, x.2.1, x.2.2] ++ flat3 vs := by simp [flat3]
  rw [e, show (j + 1) * 3 = [x.1, x.2.1, x.2.2].length + j * 3 by simp; omega]
  refine ⟨?_, ?_, ?_⟩
  ·rw [List.getElem?_append_right (by omega), Nat.add_sub_cancel_left]; exact this.1
  ·rw [List.getElem?_append_right (by omega), show [x.1, x.2.1, x.2.2].length + j * 3 + 1 - [x.1, x.2.1, x.2.2].length = j * 3 + 1 by omega]; exact this.2.1
  ·rw [List.getElem?_append_right (by omega), show [x.1, x.2.1, x.2.2].length + j * 3 + 2 - [x.1, x.2.1, x.2.2].length = j * 3 + 2 by omega]; exact this.2.2
def RowK (W : World) (base : Nat) (sv : Value) (ks : List It) : Prop :=
 ∃ vs : List (Value × Value × Value), vs.length = ks.length ∧ W.ownsRow base 78 3 sv ks.length (flat3 vs) ∧ ∀ (j : Nat) (k : It) (v : Value × Value × Value), ks[j]? = some k → vs[j]? = some v → ItemS W (fun b => base ≤ b ∧ sv.ownBlock ≠ some b) k (.agg #[v.1, v.2.1, v.2.2])
theorem owns_cells {A X : World} {base : Nat} {e : TypeId} {size n : Nat} {v : Value} {xs : List Value} (h : A.ownsRow base e size v n xs) (hk : ∀ (b : Nat) (o : Obj), base ≤ b → A.heap[b]? = some o → o.isCells = true → X.heap[b]? = some o) : X.ownsRow base e size v n xs := by
 refine ⟨h.1, ?_⟩
 rcases h.2 with h' | ⟨g, cap, cur, e1, e2, e3, e4⟩
 ·exact .inl h'
 ·exact .inr ⟨g, cap, cur, e1, e2, hk g _ e2 e3 rfl, e4⟩
theorem RowK.keep {A X : World} {base : Nat} {sv : Value} {ks : List It} (h : RowK A base sv ks) (hk : ∀ (b : Nat) (o : Obj), base ≤ b → A.heap[b]? = some o → o.isCells = true → X.heap[b]? = some o) : RowK X base sv ks := by
 obtain ⟨vs, h1, h2, h3⟩ := h
 exact ⟨vs, h1, owns_cells h2 hk, fun j k v hj hv => (h3 j k v hj hv).keepC (fun b o hb ho hc => hk b o hb.1 ho hc) (fun b hb _ => hb)⟩
theorem RowK.later {A X : World} {base : Nat} {sv : Value} {ks : List It} (h : RowK A base sv ks) (hb : Below A.heap.size A X) : RowK X base sv ks :=
 h.keep (fun b _ _ ho _ => (hb.block b (Array.getElem?_eq_some_iff.1 ho).1).trans ho)
theorem RowK.nil (W : World) (base : Nat) : RowK W base (.slice none 0 0) [] := ⟨[], rfl, World.ownsRow_nil _ _ _ _, fun j k v hj => by simp at hj⟩
theorem RowK.shape {A : World} {base : Nat} {sv : Value} {ks : List It} (h : RowK A base sv ks) : ∃ a c, sv = .slice a ks.length c := by
 obtain ⟨vs, h1, h2, h3⟩ := h
 rcases h2.2 with ⟨rfl, h0⟩ | ⟨g, cap, cur, rfl, _⟩
 ·exact ⟨none, 0, by rw [h0]⟩
 ·exact ⟨_, _, rfl⟩
theorem RowK.block {A : World} {base : Nat} {sv : Value} {ks : List It} (h : RowK A base sv ks) {b : Nat} (hb : sv.ownBlock = some b) : base ≤ b ∧ ∃ cs, A.heap[b]? = some (.cells cs 78 (0, 0)) := by
 obtain ⟨vs, h1, h2, h3⟩ := h
 rcases h2.2 with ⟨rfl, h0⟩ | ⟨g, cap, cur, rfl, hbg, hg', _⟩
 ·cases hb
 ·injection hb with hb
  subst hb
  exact ⟨hbg, cur, hg'⟩
theorem RowK.item {A : World} {base : Nat} {sv : Value} {ks : List It} (h : RowK A base sv ks) (hn : ks.length ≤ 1099511627776) : ItemS A (fun b => base ≤ b) (.mk true ⟨#[]⟩ ks) (.agg #[.bool true, .string ⟨#[]⟩, sv]) := by
 obtain ⟨vs, h1, h2, h3⟩ := h
 rcases h2.2 with ⟨rfl, h0⟩ | ⟨g, cap, cur, rfl, hbg, hg', hnc, hcm, hcs, htake⟩
 ·have hk : ks = [] := List.eq_nil_of_length_eq_zero h0
  subst hk
  exact ItemS.mk' (t := .mk true ⟨#[]⟩ []) hn (show 0 ≤ 140737488355328 by omega) (.inl rfl)
 ·refine ItemS.mk' (t := .mk true ⟨#[]⟩ ks) hn (show 0 ≤ 140737488355328 by omega) (.inr ⟨g, 0, rfl, hbg, KidsS.of_get (fun j k hj => ?_)⟩)
  have hjl : j < vs.length := by rw [h1]; exact (List.getElem?_eq_some_iff.1 hj).1
  obtain ⟨v, hv⟩ : ∃ v, vs[j]? = some v := ⟨_, List.getElem?_eq_getElem hjl⟩
  obtain ⟨f0, f1, f2⟩ := flat3_at vs j v hv
  have hc := World.ownsRow.cells h2 (g := g) rfl
  have ha : ∀ i, (⟨g, 0, none⟩ : Addr).add i = ⟨g, i, none⟩ := fun i => by unfold Addr.add; split <;> simp_all
  have c0 := hc _ _ f0
  have c1 := hc _ _ f1
  have c2 := hc _ _ f2
  rw [ha] at c0 c1 c2
  rw [Nat.zero_add]
  exact ⟨v.1, v.2.1, v.2.2, c0, c1, c2, (h3 j k v hj hv).mono (fun b hb _ => hb.1)⟩
end
section
open Go Go.RowKit
attribute [local go_sem] Oper.semAt_some Grows wide_fn
def TwoB (Bo : Nat) (sv : Value) (W y : World) : Prop := (y.os = W.os ∧ y.tape = W.tape ∧ y.output = W.output ∧ W.heap.size ≤ y.heap.size) ∧ ∀ k, k < W.heap.size → k ≠ Bo → sv.ownBlock ≠ some k → y.heap[k]? = W.heap[k]?
theorem TwoB.refl (Bo : Nat) (sv : Value) (W : World) : TwoB Bo sv W W := ⟨⟨rfl, rfl, rfl, Nat.le_refl _⟩, fun _ _ _ _ => rfl⟩
theorem TwoB.below {Bo : Nat} {sv : Value} {W y z : World} (h : TwoB Bo sv W y) (hb : Below y.heap.size y z) : TwoB Bo sv W z :=
 ⟨⟨hb.os.trans h.1.1, hb.tape.trans h.1.2.1, hb.output.trans h.1.2.2.1, Nat.le_trans h.1.2.2.2 hb.size⟩, fun k hk h1 h2 => (hb.block k (Nat.lt_of_lt_of_le hk h.1.2.2.2)).trans (h.2 k hk h1 h2)⟩
theorem TwoB.set {Bo : Nat} {sv : Value} {W y : World} (h : TwoB Bo sv W y) {p : Addr} (hp : p.block = Bo ∨ sv.ownBlock = some p.block ∨ W.heap.size ≤ p.block) (u : Value) : TwoB Bo sv W (y.setCell p u) :=
 ⟨⟨h.1.1, h.1.2.1, h.1.2.2.1, by simpa [World.setCell] using h.1.2.2.2⟩, fun k hk h1 h2 => (Below.heap_setCell y p u k (fun e => by
  rcases hp with hp | hp | hp
  ·exact h1 (e.trans hp)
  ·exact h2 (by rw [hp, e])
  ·omega)).trans (h.2 k hk h1 h2)⟩
theorem TwoB.row {Bo : Nat} {sv v : Value} {W y z : World} (h : TwoB Bo sv W y) (hg : y.grownBy z v.ownBlock) (hv : v.ownBlock = sv.ownBlock ∨ ∀ b, v.ownBlock = some b → W.heap.size ≤ b) : TwoB Bo sv W z :=
 ⟨⟨hg.os.trans h.1.1, hg.tape.trans h.1.2.1, hg.output.trans h.1.2.2.1, Nat.le_trans h.1.2.2.2 hg.size⟩, fun k hk h1 h2 => (hg.block k (Nat.lt_of_lt_of_le hk h.1.2.2.2) (fun e => by
  rcases hv with hv | hv
  ·exact h2 (by rw [← hv, e])
  ·have := hv k e.symm; omega)).trans (h.2 k hk h1 h2)⟩
theorem owns_set3 {y : World} {base n : Nat} {v : Value} {xs : List Value} {gb : Nat} (h : y.ownsRow base 78 3 v (n + 1) (xs ++ [.bool false, .string ⟨#[]⟩, .slice none 0 0])) (hx : xs.length = n * 3) (hv : v.ownBlock = some gb) (u0 u1 u2 : Value) :
  (((y.setCell ⟨gb, n * 3, none⟩ u0).setCell ⟨gb, n * 3 + 1, none⟩ u1).setCell ⟨gb, n * 3 + 2, none⟩ u2).ownsRow base 78 3 v (n + 1) (xs ++ [u0, u1, u2]) ∧ (∃ cs, Has y gb 78 cs ∧ n * 3 + 2 < cs.size) := by
 rcases h.2 with ⟨rfl, h0⟩ | ⟨g, cap, cur, rfl, hbg, hg, hnc, hcm, hcs, htake⟩
 ·cases hv
 ·injection hv with hv
  subst hv
  have hH : Has y g 78 cur := hg
  have hsz : n * 3 + 2 < cur.size := by rw [hcs]; omega
  refine ⟨⟨by simp; omega, .inr ⟨g, cap, _, rfl, hbg, ((hH.set (n * 3) u0).set (n * 3 + 1) u1).set (n * 3 + 2) u2, hnc, hcm, by simp [hcs], ?_⟩⟩, cur, hH, hsz⟩
  apply List.ext_getElem?
  intro j
  have ht : ∀ j : Nat, (cur.toList.take ((n + 1) * 3))[j]? = (xs ++ [Value.bool false, .string ⟨#[]⟩, .slice none 0 0])[j]? := fun j => by rw [htake]
  rw [List.getElem?_take]
  by_cases hj : j < (n + 1) * 3
  ·rw [if_pos hj]
   have htj := ht j
   rw [List.getElem?_take, if_pos hj] at htj
   simp only [Array.toList_setIfInBounds, List.getElem?_set]
   by_cases h1 : j < n * 3
   ·rw [if_neg (by omega), if_neg (by omega), if_neg (by omega), htj, List.getElem?_append_left (by omega), List.getElem?_append_left (by omega)]
   ·obtain ⟨i, hi⟩ : ∃ i, j = xs.length + i := ⟨j - n * 3, by omega⟩
    have hi3 : i < 3 := by omega
    rw [show (xs ++ [u0, u1, u2])[j]? = [u0, u1, u2][i]? by rw [hi, List.getElem?_append_right (by omega), Nat.add_sub_cancel_left]]
    have : i = 0 ∨ i = 1 ∨ i = 2 := by omega
    rcases this with rfl | rfl | rfl
    ·rw [if_neg (by omega), if_neg (by omega), if_pos (by omega)]
     simp; omega
    ·rw [if_neg (by omega), if_pos (by omega)]
     simp; omega
    ·rw [if_pos (by omega)]
     simp; omega
  ·rw [if_neg hj, List.getElem?_eq_none]
   simp; omega
end
end Go.Proofs.YtkicmbdjihjgfaaGreatDoor
