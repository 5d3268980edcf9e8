import Derived.Test.YtbbpmcebakckaaaGreatDoorU13
import Derived.Test.YtbbpmcebakckaaaGreatDoorU08
import Derived.Test.YtbbpmcebakckaaaGreatDoorU10
import Derived.Test.YtbbpmcebakckaaaGreatDoorU01
/- begun: bytes with those of an item behind them, but for its kids'. Conditions: the item lies in memory and is right; the lengths are in reach. -/
namespace Go.Proofs.YtbbpmcebakckaaaGreatDoor
open Go Go.RowKit
attribute [local go_sem] Oper.semAt_some Grows wide_fn

def cellsB (l : List UInt8) : List Value := l.map fun b => Value.int .u8 b.toNat
theorem cellsB_append (a b : List UInt8) : cellsB (a ++ b) = cellsB a ++ cellsB b := by simp [cellsB]
theorem byteCells_list (l : List UInt8) : byteCells ⟨l.toArray⟩ = cellsB l := by simp [byteCells, cellsB]
theorem byteCells_str (s : ByteArray) : byteCells s = cellsB s.data.toList := rfl
/-- A slice of bytes of the call's own. -/
def RowB (W : World) (base : Nat) (v : Value) (l : List UInt8) : Prop := W.ownsRow base 5 1 v l.length (cellsB l)
theorem RowB.later {A X : World} {base : Nat} {v : Value} {l : List UInt8} (h : RowB A base v l) (hb : Below A.heap.size A X) : RowB X base v l := owns_below h hb
/-- A slice's block is the elder one's, or one that is newer. -/
def Newer (n : Nat) (v v' : Value) : Prop := v'.ownBlock = v.ownBlock ∨ ∀ b, v'.ownBlock = some b → n ≤ b
/-- An item's bytes, but for its kids'. -/
def preB (t : It) : List UInt8 := headI t (heldB t).length ++ t.bytes.data.toList

/-- What begun comes to. -/
def BegunP (base : Nat) (v : Value) (l : List UInt8) (W : World) (e : Ending) (W' : World) : Prop :=
  ∃ v', e = .returned v' ∧ RowB W' base v' l ∧ W.grownBy W' v.ownBlock

theorem Has.row {A X : World} {B base : Nat} {t : TypeId} {cs : Array Value} (h : Has A B t cs) {v : Value} {l : List UInt8} (hr : RowB A base v l) (ht : t ≠ 5) (hg : A.grownBy X v.ownBlock) : Has X B t cs := by
  refine (hg.block B h.lt (fun e => ?_)).trans h
  rcases hr.2 with ⟨rfl, _⟩ | ⟨g, cap, cur, rfl, _, hg', _⟩
  · simp [Value.ownBlock] at e
  · simp [Value.ownBlock] at e
    subst e
    rw [show A.heap[B]? = _ from h] at hg'
    injection hg' with hg'
    injection hg' with _ hg' _
    exact ht hg'
theorem grown_newer {w A X : World} {v u : Value} (h : w.grownBy A v.ownBlock) (hn : Newer w.heap.size v u) (hg : A.grownBy X u.ownBlock) : w.grownBy X v.ownBlock :=
  ⟨hg.os.trans h.os, hg.tape.trans h.tape, hg.output.trans h.output, Nat.le_trans h.size hg.size, fun k hk hne => by
    refine (hg.block k (Nat.lt_of_lt_of_le hk h.size) (fun e => ?_)).trans (h.block k hk hne)
    rcases hn with h' | h'
    · exact hne (e.trans h')
    · have := h' k e.symm; omega⟩

theorem infoB_of : ∃ i, Tryz.prog.info? 5 = some i ∧ i.zero = some (.int .u8 0) ∧ i.size = 1 ∧ i.bytes = 1 := by
  have h := infoB
  rcases hi : Tryz.prog.info? 5 with _ | i
  · rw [hi] at h; cases h
  · rw [hi] at h
    injection h with h
    simp only [Prod.mk.injEq] at h
    exact ⟨i, rfl, h.1, h.2.1, h.2.2⟩

set_option maxRecDepth 100000 in
set_option maxHeartbeats 4000000 in
theorem begun_any (t : It) (d : Nat) (hr : RightI d t) (hsz : (encI t).length ≤ 2305843009213693952) (base : Nat) (v x : Value) (l : List UInt8) (w : World) (ht : ItemAt w t x) (hv : RowB w base v l) (hbase : base ≤ w.heap.size)
    (hb : l.length + (preB t).length ≤ 140737488355328) :
    Calls Tryz.prog 30 #[v, x] w (BegunP base v (l ++ preB t) w) := by
  have hmx : Tryz.prog.follows .mixedOrders = true := by kernel_rfl
  obtain ⟨a, cap, rfl, hn, hs, hk⟩ := ht.open
  have HH := Lib.hid (fun W (hW : Below w.heap.size w W) => held_right t d hr hsz _ W (ht.later hW))
  have HD := Lib.hid (fun W (hW : Below w.heap.size w W) => head_any t (heldB t).length (by have := enc_held hr; rw [this, List.length_append] at hsz; omega) _ W (ht.later hW))
  have hpre : l ++ preB t = (l ++ headI t (heldB t).length) ++ t.bytes.data.toList := by unfold preB; rw [List.append_assoc]
  have hpl : (preB t).length = (headI t (heldB t).length).length + t.bytes.data.toList.length := by unfold preB; rw [List.length_append]
  have hbs : t.bytes.data.toList.length = t.bytes.size := by simp
  rw [hpre]
  rw [hpl, hbs] at hb
  have Q := (Below.refl w.heap.size w).alloc (Nat.le_refl _) (.cells #[.bool t.list, .string t.bytes, .slice a t.kids.length cap] 29)
  have LX := Has.new w 29 #[.bool t.list, .string t.bytes, .slice a t.kids.length cap]
  clear ht hr hsz hk hpre hpl hbs hs hn
  generalize headI t (heldB t).length = hd at *
  generalize (heldB t).length = hn at *
  generalize t.bytes = b at *
  generalize t.kids.length = n at *
  generalize t.list = tl at *
  have hstr : (⟨hd.toArray⟩ : ByteArray).size = hd.length := rfl
  go_enter Tryz.func30, Tryz.ntmps30
  go_wp2_with fail
  obtain ⟨W1, hW1⟩ : ∃ W1, w.alloc (.cells #[.bool tl, .string b, .slice a n cap] 29) = W1 := ⟨_, rfl⟩
  rw [hW1] at Q LX ⊢
  clear hW1
  have hvI := hv.later Q
  refine wp_region_ghost [some v, some (.agg #[.bool tl, .string b, .slice a n cap]), some (.agg #[.bool tl, .string b, .slice a n cap]), some (.int .i64 (hn : Int)), some (strV hd), none, some (.pointer (some ⟨w.heap.size, 1, none⟩)), some (.string b), none, none]
    [[], [], [], [2], [1, 2, 3], [0, 1, 2, 3, 4], [], [6], [0, 1, 2, 3, 4, 5, 6, 7], [0, 1, 2, 3, 4, 5, 6, 7, 8]]
    (fun f g' y => ((w.grownBy y v.ownBlock ∧ base ≤ y.heap.size) ∧ Has y w.heap.size 29 #[.bool tl, .string b, .slice a n cap]) ∧ ((f 5 = false → Below w.heap.size w y ∧ RowB y base v l) ∧ (f 5 = true → f 8 = false → RowB y base (g' 5) (l ++ hd) ∧ Newer w.heap.size v (g' 5))) ∧ ((f 8 = true → RowB y base (g' 8) (l ++ hd ++ b.data.toList)) ∧ (f 9 = true → g' 9 = g' 8)))
    (by kernel_rfl) (by kernel_rfl) (by kernel_rfl) ?_ ?_ ?_ ?_
  · rintro f g' wa wb ⟨⟨⟨h1, h2⟩, h3⟩, ⟨h4, h5⟩, h6, h7⟩ hb
    exact ⟨⟨⟨grown_then_below h1 hb, Nat.le_trans h2 hb.size⟩, h3.later hb⟩, ⟨fun e => ⟨(h4 e).1.trans (hb.mono (h4 e).1.size), (h4 e).2.later hb⟩, fun e e' => ⟨(h5 e e').1.later hb, (h5 e e').2⟩⟩, fun e => (h6 e).later hb, h7⟩
  · intro f f' g1 g1' wa h
    have h5 := h 5 rfl
    have h8 := h 8 rfl
    have h9 := h 9 rfl
    rw [h5.1, h5.2, h8.1, h8.2, h9.1, h9.2]
    exact id
  · exact ⟨⟨⟨grown_of_below Q.drew _, Nat.le_trans hbase Q.size⟩, LX⟩, ⟨fun _ => ⟨Q.drew, owns_below hvI (Below.refl _ _).drew⟩, fun e => by cases e⟩, (fun e => by cases e), fun e => by cases e⟩
  rintro f g' y ⟨⟨⟨h1, h2⟩, h3⟩, ⟨h4, h5⟩, h6, h7⟩ Dn
  clear Q LX hv hvI
  have c0 := h3.cell 0 _ rfl
  have c1 := h3.cell 1 _ rfl
  have c2 := h3.cell 2 _ rfl
  replace h4 := Lib.hid h4
  replace h5 := Lib.hid h5
  replace h6 := Lib.hid h6
  replace h7 := Lib.hid h7
  replace h1 := Lib.hid h1
  replace h3 := Lib.hid h3
  refine GW.known _ rfl (fun hd' hf => ?_) ?_
  · go_wp2
    exact ⟨rfl, rfl, Below.refl _ _⟩
  simp only [Act.put, List.setIfInBounds_toArray, List.set_cons_succ, List.set_cons_zero]
  refine GW.known _ rfl (fun hd' hf => ?_) ?_
  · go_wp2
    exact ⟨rfl, rfl, Below.refl _ _⟩
  simp only [Act.put, List.setIfInBounds_toArray, List.set_cons_succ, List.set_cons_zero]
  refine GW.known _ rfl (fun hd' hf => ?_) ?_
  · go_wp2
    exact ⟨rfl, rfl, Below.refl _ _⟩
  simp only [Act.put, List.setIfInBounds_toArray, List.set_cons_succ, List.set_cons_zero]
  refine GW.known _ rfl (fun hd' hf => ?_) ?_
  · have hf5 : f 5 = false := by
      rcases h : f 5 with _ | _
      · rfl
      · have := Dn 5 h 3 (by decide); rw [hf] at this; cases this
    have HC := Lib.hid (HH.out y (h4.out hf5).1)
    go_wp2_with fail
    refine HC.out.mono ?_
    rintro e u ⟨rfl, hq⟩
    go_wp2
    exact ⟨rfl, rfl, hq⟩
  simp only [Act.put, List.setIfInBounds_toArray, List.set_cons_succ, List.set_cons_zero]
  refine GW.known _ rfl (fun hd' hf => ?_) ?_
  · have hf5 : f 5 = false := by
      rcases h : f 5 with _ | _
      · rfl
      · have := Dn 5 h 4 (by decide); rw [hf] at this; cases this
    have HC := Lib.hid (HD.out y (h4.out hf5).1)
    go_wp2_with fail
    refine HC.out.mono ?_
    rintro e u ⟨rfl, hq⟩
    go_wp2
    exact ⟨rfl, rfl, hq⟩
  simp only [Act.put, List.setIfInBounds_toArray, List.set_cons_succ, List.set_cons_zero]
  refine GW.open rfl (fun hd' hf => ?_) ?_
  · obtain ⟨hB, hR⟩ := h4.out hf
    have hf8 : f 8 = false := by
      rcases h : f 8 with _ | _
      · rfl
      · have := Dn 8 h 5 (by decide); rw [hf] at this; cases this
    have hf9 : f 9 = false := by
      rcases h : f 9 with _ | _
      · rfl
      · have := Dn 9 h 5 (by decide); rw [hf] at this; cases this
    obtain ⟨i, hi, hz, hsize, hby⟩ := infoB_of
    refine wpList_append_str y rfl (.tmp 5) (.tmp 9) 49 9 rfl base 5 i (.int .u8 0) Tryz.underlying49 Tryz.underlying9 hi hz hsize hby rfl v l.length (cellsB l) rfl hR ⟨hd.toArray⟩ rfl (by rw [hstr]; omega) h2 ?_
    intro v' w' k1 k2 k3
    have hrow : RowB w' base v' (l ++ hd) := by
      unfold RowB
      rw [List.length_append, cellsB_append, ← byteCells_list, ← hstr]
      exact k1
    have hnew : Newer w.heap.size v v' := by
      rcases k3 with h | h
      · exact .inl h
      · exact .inr (fun b hb' => by rw [h] at hb'; injection hb' with hb'; have := h1.out.size; omega)
    refine ⟨rfl, ⟨⟨⟨grown_newer (grown_of_below hB _) (.inl rfl) k2, Nat.le_trans h2 k2.size⟩, h3.out.row hR (by decide) k2⟩, ⟨fun e => absurd (show true = false from e) (by decide), fun _ _ => ⟨hrow, hnew⟩⟩, fun e => absurd ((show f 8 = true from e).symm.trans hf8) (by decide), fun e => absurd ((show f 9 = true from e).symm.trans hf9) (by decide)⟩⟩
  simp only [Act.put, List.setIfInBounds_toArray, List.set_cons_succ, List.set_cons_zero]
  refine GW.known _ rfl (fun hd' hf => ?_) ?_
  · go_wp2
    exact ⟨rfl, rfl, Below.refl _ _⟩
  simp only [Act.put, List.setIfInBounds_toArray, List.set_cons_succ, List.set_cons_zero]
  refine GW.known _ rfl (fun hd' hf => ?_) ?_
  · go_wp2
    exact ⟨rfl, rfl, Below.refl _ _⟩
  simp only [Act.put, List.setIfInBounds_toArray, List.set_cons_succ, List.set_cons_zero]
  refine GW.open rfl (fun hd' hf => ?_) ?_
  · obtain ⟨hR, hN⟩ := h5.out (hd' 5 (by decide)) hf
    have hf9 : f 9 = false := by
      rcases h : f 9 with _ | _
      · rfl
      · have := Dn 9 h 8 (by decide); rw [hf] at this; cases this
    obtain ⟨i, hi, hz, hsize, hby⟩ := infoB_of
    refine wpList_append_str y rfl (.tmp 10) (.tmp 12) 49 9 rfl base 5 i (.int .u8 0) Tryz.underlying49 Tryz.underlying9 hi hz hsize hby rfl (g' 5) (l ++ hd).length (cellsB (l ++ hd)) rfl hR b rfl (by rw [List.length_append]; omega) h2 ?_
    intro v' w' k1 k2 k3
    have hrow : RowB w' base v' (l ++ hd ++ b.data.toList) := by
      unfold RowB
      rw [List.length_append (bs := b.data.toList), cellsB_append _ b.data.toList, ← byteCells_str, show b.data.toList.length = b.size by simp]
      exact k1
    refine ⟨rfl, ⟨⟨⟨grown_newer h1.out hN k2, Nat.le_trans h2 k2.size⟩, h3.out.row hR (by decide) k2⟩, ⟨fun e => absurd ((show f 5 = false from e).symm.trans (hd' 5 (by decide))) (by decide), fun _ e => absurd (show true = false from e) (by decide)⟩, fun _ => hrow, fun e => absurd ((show f 9 = true from e).symm.trans hf9) (by decide)⟩⟩
  simp only [Act.put, List.setIfInBounds_toArray, List.set_cons_succ, List.set_cons_zero]
  refine GW.open rfl (fun hd' hf => ?_) ?_
  · have k8 := h6.out (hd' 8 (by decide))
    have f5 : f 5 = true := hd' 5 (by decide)
    have f8 : f 8 = true := hd' 8 (by decide)
    clear c0 c1 c2
    have HU := Lib.hid (And.intro f5 f8)
    clear f5 f8
    replace k8 := Lib.hid k8
    go_wp2
    exact ⟨rfl, ⟨⟨h1.out, h2⟩, h3.out⟩, ⟨fun e => absurd ((show f 5 = false from e).symm.trans HU.out.1) (by decide), fun _ e => absurd ((show f 8 = false from e).symm.trans HU.out.2) (by decide)⟩, fun _ => k8.out, fun _ => rfl⟩
  simp only [Act.put, List.setIfInBounds_toArray, List.set_cons_succ, List.set_cons_zero]
  refine GW.nil (fun hall => ?_)
  have k8 := h6.out (hall 8 (by decide))
  have k9 := h7.out (hall 9 (by decide))
  have k1 := h1.out
  rw [k9]
  clear h4 h5 h6 h7 h1 k9 c0 c1 c2 hall Dn
  have K := Lib.hid (show BegunP base v (l ++ hd ++ b.data.toList) w (.returned (g' 8)) y from ⟨_, rfl, k8, k1⟩)
  generalize g' 8 = g8 at *
  generalize g' 5 = g5 at *
  clear k8 k1
  go_wp2_with fail
  go_ret
  exact K.out
end Go.Proofs.YtbbpmcebakckaaaGreatDoor

/- gather at bytes: an item's bytes. Conditions: the item lies in memory and is right; its bytes are in reach. -/
namespace Go.Proofs.YtbbpmcebakckaaaGreatDoor
open Go Go.RowKit
attribute [local go_sem] Oper.semAt_some Grows wide_fn

theorem enc_pre {d : Nat} {t : It} (h : RightI d t) : encI t = preB t ++ encL t.kids := by
  rw [enc_held h]
  unfold preB heldB
  rw [List.append_assoc]
theorem pre_enc : ∀ (t : It) (e d : Nat), RightI e t → (preI d t).flatMap (fun p => preB p.2) = encI t := by
  refine It.induct ?_
  intro t ih e d hr
  rw [preI_eq, List.flatMap_cons, enc_pre hr]
  congr 1
  have : ∀ (ks : List It), (∀ k ∈ ks, k ∈ t.kids) → (preL (d + 1) ks).flatMap (fun p => preB p.2) = encL ks := by
    intro ks
    induction ks with
    | nil => intro _; simp [preL, encL]
    | cons k ks ih2 =>
      intro hm
      rw [preL, encL, List.flatMap_append, ih k (hm k (by simp)) (e - 1) (d + 1) (right_kid hr (hm k (by simp))), ih2 (fun y hy => hm y (by simp [hy]))]
  exact this t.kids (fun _ h => h)
theorem pre_in : ∀ (t : It) (e d : Nat), RightI e t → ∀ p ∈ preI d t, ∃ e', RightI e' p.2 ∧ (encI p.2).length ≤ (encI t).length := by
  refine It.induct ?_
  intro t ih e d hr p hp
  rw [preI_eq] at hp
  rcases List.mem_cons.1 hp with rfl | hp
  · exact ⟨e, hr, Nat.le_refl _⟩
  · have : ∀ (ks : List It), (∀ k ∈ ks, k ∈ t.kids) → p ∈ preL (d + 1) ks → ∃ k ∈ t.kids, p ∈ preI (d + 1) k := by
      intro ks
      induction ks with
      | nil => intro _ h; simp [preL] at h
      | cons k ks ih2 =>
        intro hm h
        rw [preL] at h
        rcases List.mem_append.1 h with h | h
        · exact ⟨k, hm k (by simp), h⟩
        · exact ih2 (fun y hy => hm y (by simp [hy])) h
    obtain ⟨k, hk, hpk⟩ := this t.kids (fun _ h => h) hp
    obtain ⟨e', h1, h2⟩ := ih k hk (e - 1) (d + 1) (right_kid hr hk) p hpk
    exact ⟨e', h1, Nat.le_trans h2 (encI_kid hr hk)⟩
/-- The bytes of the first k. -/
def preE (t : It) (k : Nat) : List UInt8 := ((preI 0 t).take k).flatMap (fun p => preB p.2)
theorem preE_succ {t : It} {k : Nat} {p : Nat × It} (h : (preI 0 t)[k]? = some p) : preE t (k + 1) = preE t k ++ preB p.2 := by
  unfold preE
  obtain ⟨hl, he⟩ := List.getElem?_eq_some_iff.1 h
  rw [List.take_succ_eq_append_getElem hl, List.flatMap_append, he]
  simp
theorem preE_part (t : It) (k : Nat) : (preE t k).length ≤ ((preI 0 t).flatMap (fun p => preB p.2)).length := by
  have h := List.take_append_drop k (preI 0 t)
  have h2 : (preI 0 t).flatMap (fun p => preB p.2) = preE t k ++ ((preI 0 t).drop k).flatMap (fun p => preB p.2) := by
    unfold preE
    rw [← List.flatMap_append, h]
  rw [h2, List.length_append]
  omega
theorem preE_all {t : It} {e : Nat} (hr : RightI e t) : preE t (countI t) = encI t := by
  unfold preE
  rw [List.take_of_length_le (by rw [preI_length]; omega), pre_enc t e 0 hr]

theorem RowB.own' {A X : World} {row : Option Nat} {base : Nat} {v : Value} {l : List UInt8} (h : RowB A base v l) (hg : A.grownBy X row) (hr : ∀ r, row = some r → ∃ o : Obj, A.heap[r]? = some o ∧ o.isCells = false) : RowB X base v l := by
  refine World.ownsRow.kept h hg ?_
  rcases h.2 with ⟨rfl, _⟩ | ⟨g, cap, cur, rfl, _, hg', _⟩
  · exact .inl rfl
  · refine .inr (fun e => ?_)
    obtain ⟨o, ho, hc⟩ := hr g e.symm
    rw [hg'] at ho
    cases ho
    cases hc
theorem RowB.block {A : World} {base : Nat} {v : Value} {l : List UInt8} (h : RowB A base v l) {b : Nat} (hb : v.ownBlock = some b) : base ≤ b ∧ ∃ cs, A.heap[b]? = some (.cells cs 5 (0, 0)) := by
  rcases h.2 with ⟨rfl, _⟩ | ⟨g, cap, cur, rfl, hbg, hg', _⟩
  · cases hb
  · injection hb with hb
    subst hb
    exact ⟨hbg, cur, hg'⟩
theorem RowB.shape {A : World} {base : Nat} {v : Value} {l : List UInt8} (h : RowB A base v l) : ∃ a n c, v = .slice a n c := by
  rcases h.2 with ⟨rfl, _⟩ | ⟨g, cap, cur, rfl, _, _, _⟩
  · exact ⟨none, 0, 0, rfl⟩
  · exact ⟨_, _, _, rfl⟩
/-- What a change of a row of bytes leaves. -/
theorem kd_row {A X : World} {n base : Nat} {v : Value} {l : List UInt8} (h : RowB A base v l) (hg : A.grownBy X v.ownBlock) (hn : n ≤ base) (hnA : n ≤ A.heap.size) : Kd n A X :=
  ⟨⟨hg.os, hg.tape, hg.output, hg.size, fun k hk => hg.block k (by omega) (fun e => by have := (h.block e.symm).1; omega)⟩, fun b cs m hb hA => (hg.block b (Array.getElem?_eq_some_iff.1 hA).1 (fun e => by
    obtain ⟨_, cs', h'⟩ := h.block e.symm
    rw [hA] at h'
    injection h' with h'
    injection h' with _ h' _
    exact absurd h' (by decide))).trans hA⟩
theorem keeps_row {A X : World} {n base : Nat} {v : Value} {l : List UInt8} (h : RowB A base v l) (hg : A.grownBy X v.ownBlock) : KeepsFrom n A X :=
  ⟨hg.size, fun k o _ ho hc => (hg.block k (Array.getElem?_eq_some_iff.1 ho).1 (fun e => by
    obtain ⟨_, cs', h'⟩ := h.block e.symm
    rw [ho] at h'
    cases h'
    cases hc)).trans ho⟩

/-- What the loop holds. -/
def GathSt (w : World) (t : It) (k : Nat) (W : World) : Prop :=
  (∃ v, Has W w.heap.size 49 #[v] ∧ RowB W w.heap.size v (preE t k)) ∧ Has W (w.heap.size + 1) 58 #[.func (.func 30) #[] #[]] ∧ Below w.heap.size w W
theorem GathSt.later {w : World} {t : It} {k : Nat} {A X : World} (h : GathSt w t k A) (hb : Below A.heap.size A X) : GathSt w t k X := by
  obtain ⟨⟨v, h1, h2⟩, h3, h4⟩ := h
  exact ⟨⟨v, h1.later hb, h2.later hb⟩, h3.later hb, h4.trans (hb.mono h4.size)⟩
theorem GathSt.own {w : World} {t : It} {n : Nat} (hn : w.heap.size ≤ n) : OwnFrom n (fun k W => GathSt w t k W) := fun k A X row hs hg hr => by
  obtain ⟨⟨v, h1, h2⟩, h3, h4⟩ := hs
  exact ⟨⟨v, h1.own' hg (fun r e => (hr r e).2), h2.own' hg (fun r e => (hr r e).2)⟩, h3.own' hg (fun r e => (hr r e).2), below_own h4 hg hn (fun r e => (hr r e).1)⟩

/-- What gather comes to. -/
def GathP (w : World) (t : It) (e : Ending) (W' : World) : Prop := ∃ v, e = .returned v ∧ RowB W' w.heap.size v (encI t) ∧ Below w.heap.size w W'

set_option maxRecDepth 100000 in
set_option maxHeartbeats 4000000 in
theorem gatherB_any (t : It) (d : Nat) (hr : RightI d t) (hc : countI t ≤ 1099511627776) (hsz : (encI t).length ≤ 140737488355328) (l : Bool) (b : ByteArray) (a : Option Addr) (kn cap Bx : Nat) (w0 w : World) (ht : ItemAt w0 t (.agg #[.bool l, .string b, .slice a kn cap])) (hB : Below w0.heap.size w0 w)
    (hX : Has w Bx 29 #[.bool l, .string b, .slice a kn cap]) :
    Calls Tryz.prog 28 #[.func (.func 50) #[] #[.pointer (some ⟨Bx, 0, none⟩)], .slice none 0 0, .func (.func 30) #[] #[]] w (GathP w t) := by
  have hmx : Tryz.prog.follows .mixedOrders = true := by kernel_rfl
  have HT := Lib.hid ht
  have HBB := Lib.hid hB
  have HR := Lib.hid hr
  have HCC := Lib.hid hc
  have HSZ := Lib.hid hsz
  clear ht hB hr hc hsz
  refine (callsIn_wide (n := 8)).1 ?_
  refine callsIn_of_wp_marks Tryz.func28 rfl trivial ?_ rfl
  simp only [Tryz.ntmps28, List.size_toArray, List.length_cons, List.length_nil, Nat.reduceAdd, Nat.reduceSub, Array.replicate_succ, Array.replicate_zero, List.push_toArray, List.append_toArray, List.nil_append, List.cons_append]
  have LS := (Has.new w 49 #[.slice none 0 0]).alloc (.cells #[.func (.func 30) #[] #[]] 58)
  have LF := Has.new (w.alloc (.cells #[.slice none 0 0] 49)) 58 #[.func (.func 30) #[] #[]]
  simp only [World.size_alloc] at LF
  have LX := (hX.alloc (.cells #[.slice none 0 0] 49)).alloc (.cells #[.func (.func 30) #[] #[]] 58)
  have Q := ((Below.refl w.heap.size w).alloc (Nat.le_refl _) (.cells #[.slice none 0 0] 49)).alloc (by simp) (.cells #[.func (.func 30) #[] #[]] 58)
  have hs2 : ((w.alloc (.cells #[.slice none 0 0] 49)).alloc (.cells #[.func (.func 30) #[] #[]] 58)).heap.size = w.heap.size + 2 := by simp
  replace LS := Lib.hid LS
  replace LF := Lib.hid LF
  replace LX := Lib.hid LX
  replace Q := Lib.hid Q
  replace hs2 := Lib.hid hs2
  clear hX
  gi_wp2_with fail
  generalize (w.alloc (.cells #[.slice none 0 0] 49)).alloc (.cells #[.func (.func 30) #[] #[]] 58) = W2 at *
  refine wpIn_rangeFunc_C rfl (by omega) (gf := 50) (lb := #[.pointer (some ⟨Bx, 0, none⟩)]) rfl trivial (enters_of Tryz.func50 (by kernel_rfl) rfl)
    (all_seq _ t l b a kn cap Bx w0 W2 HT.out (HBB.out.trans (Q.out.mono HBB.out.size)) LX.out HCC.out) Gr.keeps Kd.trans (fun W l o o' hl h1 h2 _ => Kd.put W l o o' (by have := hs2.out; have := HBB.out.size; omega) h1 h2) (fun k args W _ hE => by obtain ⟨d', x, v', _, e, _⟩ := hE; rw [e]; rfl)
    (fun k W => GathSt w t k W) (fun _ _ _ => False) (GathSt.own (by have := hs2.out; omega)) (fun c k A X row hs hg hr => hs)
    (fun s V X hs hb => hs.later hb) (fun c s V X hs hb => hs) ⟨⟨_, LS.out, by unfold preE; simp only [List.take_zero, List.flatMap_nil]; exact World.ownsRow_nil _ _ _ _⟩, LF.out, Q.out⟩
    (fun k a' V => ∃ d' x l1 b1 a1 n1 cap1 bx, (preI 0 t)[k]? = some (d', x) ∧ ItemAt w0 x (.agg #[.bool l1, .string b1, .slice a1 n1 cap1]) ∧ Has V bx 29 #[.bool l1, .string b1, .slice a1 n1 cap1] ∧
      a' = { tmps := #[.func (.func 50) #[] #[.pointer (some ⟨Bx, 0, none⟩)], .slice none 0 0, .func (.func 30) #[] #[], undef, .pointer (some ⟨w.heap.size, 0, none⟩), .pointer (some ⟨w.heap.size + 1, 0, none⟩), .slice none 0 0, undef, .pointer (some ⟨bx, 0, none⟩), .func (.func 50) #[] #[.pointer (some ⟨Bx, 0, none⟩)], .int .i64 ((d' : Nat) : Int), .agg #[.bool l1, .string b1, .slice a1 n1 cap1], undef, undef, undef, undef, undef], defers := [] })
    (fun k a' _ X Y row hs hg hr => by
      obtain ⟨d', x, l1, b1, a1, n1, cap1, bx, h1, h2, h3, e⟩ := hs
      exact ⟨d', x, l1, b1, a1, n1, cap1, bx, h1, h2, h3.own' hg (fun r e => (hr r e).2), e⟩) ?assign ?body ?done ?stop
  case assign =>
    intro ll k args W K hll hkN hst hE hK
    obtain ⟨d', x, v', h1, rfl, h3⟩ := hE
    obtain ⟨a1, cap1, rfl, _, _, _⟩ := h3.open
    have HST := Lib.hid hst
    have HK := Lib.hid hK
    have H3 := Lib.hid h3
    have H1 := Lib.hid h1
    clear hst hkN hK h3 h1
    have NX := Has.new W 29 #[.bool false, .string ⟨#[]⟩, .slice none 0 0]
    have x0 := NX.cell 0 _ rfl
    have x1 := NX.cell 1 _ rfl
    have x2 := NX.cell 2 _ rfl
    have f0 := NX.frozen 0
    have f1 := NX.frozen 1
    have f2 := NX.frozen 2
    replace NX := Lib.hid NX
    generalize x.list = l1 at *
    generalize x.bytes = b1 at *
    generalize x.kids.length = n1 at *
    gi_wp2_with fail
    have hg := (Below.refl W.heap.size W).alloc (Nat.le_refl _) (.cells #[.bool l1, .string b1, .slice a1 n1 cap1] 29)
    exact HK.out _ _ ((KeepsOthers.alloc _ _).from _) (Kd.grow hg (Nat.le_trans HBB.out.size HST.out.2.2.size)) (HST.out.later hg) ⟨d', x, l1, b1, a1, n1, cap1, W.heap.size, H1.out, H3.out, Has.new _ _ _, rfl⟩
  case body =>
    rintro ll k a' W hl hlo hkN hst ⟨d', x, l1, b1, a1, n1, cap1, bx, h1, h2, h3, rfl⟩
    obtain ⟨⟨v, s1, s2⟩, s3, s4⟩ := hst
    obtain ⟨e', hre, hle⟩ := pre_in t d 0 HR.out (d', x) (List.mem_of_getElem? h1)
    have hsu := preE_succ h1
    have hpt := preE_part t (k + 1)
    rw [pre_enc t d 0 HR.out, hsu, List.length_append] at hpt
    have hbb := HSZ.out
    have e0 := h3.cell 0 _ rfl
    have e1 := h3.cell 1 _ rfl
    have e2 := h3.cell 2 _ rfl
    have cS := s1.cell 0 _ rfl
    have cF := s3.cell 0 _ rfl
    have HC := Lib.hid (begun_any x e' hre (by simp only at hle; omega) w.heap.size v (.agg #[.bool l1, .string b1, .slice a1 n1 cap1]) (preE t k) W (h2.later (HBB.out.trans (s4.mono HBB.out.size))) s2 s4.size (by simp only at hpt; omega))
    have hnx := Lib.hid (show preE t k ++ preB x = preE t (k + 1) from hsu.symm)
    have S1 := Lib.hid s1
    have S2 := Lib.hid s2
    have S3 := Lib.hid s3
    have S4 := Lib.hid s4
    clear h1 h2 h3 s1 s2 s3 s4 hsu hpt hbb hl hlo hkN hle hre
    gi_wp2_with fail
    refine (callsIn_free (free_round ll) HC.out).mono ?_
    rintro _ W3 ⟨v3, rfl, hrow, hgr⟩
    rw [hnx.out] at hrow
    obtain ⟨va, vn, vc, rfl⟩ := hrow.shape
    have LS3 := S1.out.row S2.out (by decide) hgr
    have LF3 := S3.out.row S2.out (by decide) hgr
    have kd3 := kd_row (n := w.heap.size) S2.out hgr (Nat.le_refl _) S4.out.size
    have Q3 := S4.out.trans kd3.1
    have c3 := LS3.cell 0 _ rfl
    have f3 := LS3.frozen 0
    have KE := Lib.hid ((keeps_row (n := W2.heap.size) S2.out hgr).trans ((KeepsOthers.setCell W3 ⟨w.heap.size, 0, none⟩ (.slice va vn vc)).from W2.heap.size))
    have KD := Lib.hid ((kd_row (n := w0.heap.size) S2.out hgr HBB.out.size (Nat.le_trans HBB.out.size S4.out.size)).trans (Kd.set (n := w0.heap.size) LS3 (by decide) HBB.out.size 0 (.slice va vn vc)))
    have ST := Lib.hid (show GathSt w t (k + 1) (W3.setCell ⟨w.heap.size, 0, none⟩ (.slice va vn vc)) from ⟨⟨_, LS3.set 0 _, by
      refine World.ownsRow.kept hrow (row := some w.heap.size) ?_ ?_
      · exact ⟨rfl, rfl, rfl, by simp [World.setCell], fun k _ hne => Below.heap_setCell W3 ⟨w.heap.size, 0, none⟩ (.slice va vn vc) k (fun e => hne (by rw [e]))⟩
      · refine .inr (fun e => ?_)
        obtain ⟨_, cs, hcs⟩ := hrow.block e
        rw [show W3.heap[w.heap.size]? = _ from LS3] at hcs
        injection hcs with hcs
        injection hcs with _ hcs _
        exact absurd hcs (by decide)⟩, LF3.other (by simp) _, Q3.setCell (by simp) _⟩)
    have hv3 := Lib.hid hrow
    clear hrow hgr LS3 LF3 Q3 kd3 HC hnx S1 S2 S3 S4 e0 e1 e2 cS cF
    gi_wp2_with fail
    exact ⟨KE.out, KD.out, ST.out⟩
  case done =>
    rintro D W hD hst hK
    obtain ⟨⟨v, s1, s2⟩, s3, s4⟩ := hst
    have cS := s1.cell 0 _ rfl
    rw [preE_all HR.out] at s2
    have Q3 := show Below w.heap.size w (W.putObj D (.deferred none)) from s4.trans ⟨rfl, rfl, rfl, by simp, fun k hk => World.putObj_heap_other (by have := hs2.out; omega)⟩
    have R3 : RowB (W.putObj D (.deferred none)) w.heap.size v (encI t) := RowB.own' s2 (grownBy_putObj' W D (.deferred none)) (fun r e => by injection e with e; subst e; exact ⟨_, hK, rfl⟩)
    have K := Lib.hid (show GathP w t (.returned v) (W.putObj D (.deferred none)) from ⟨v, rfl, R3, Q3⟩)
    replace hK := Lib.hid hK
    clear s1 s2 s3 s4 Q3 R3
    gi_wp2_with fail
    refine ⟨by simp, .inl ⟨_, _, rfl, run_takeDeferred hK.out, ?_⟩⟩
    exact ⟨v, by simp [results, Tryz.results28, go_sem], K.out⟩
  case stop =>
    rintro D c k W hD hk h hK
    exact h.elim
end Go.Proofs.YtbbpmcebakckaaaGreatDoor

/- A row of items of the call's own, and one item more behind it. -/
namespace Go.Proofs.YtbbpmcebakckaaaGreatDoor
open Go Go.RowKit

def flat3 (vs : List (Value × Value × Value)) : List Value := vs.flatMap fun v => [v.1, v.2.1, v.2.2]
theorem flat3_append (a b : List (Value × Value × Value)) : flat3 (a ++ b) = flat3 a ++ flat3 b := by simp [flat3]
theorem flat3_length : ∀ (vs : List (Value × Value × Value)), (flat3 vs).length = vs.length * 3
  | [] => rfl
  | v :: vs => by
    have := flat3_length vs
    simp only [flat3, List.flatMap_cons, List.length_append, List.length_cons, List.length_nil] at this ⊢
    omega
theorem flat3_at : ∀ (vs : List (Value × Value × Value)) (j : Nat) (v : Value × Value × Value), vs[j]? = some v → (flat3 vs)[j * 3]? = some v.1 ∧ (flat3 vs)[j * 3 + 1]? = some v.2.1 ∧ (flat3 vs)[j * 3 + 2]? = some v.2.2
  | [], j, v, h => by simp at h
  | x :: vs, 0, v, h => by
    simp at h
    subst h
    simp [flat3]
  | x :: vs, j + 1, v, h => by
    have := flat3_at vs j v (by simpa using h)
    have e : flat3 (x :: vs) = [x.1, x.2.1, x.2.2] ++ flat3 vs := by simp [flat3]
    rw [e, show (j + 1) * 3 = [x.1, x.2.1, x.2.2].length + j * 3 by simp; omega]
    refine ⟨?_, ?_, ?_⟩
    · rw [List.getElem?_append_right (by omega), Nat.add_sub_cancel_left]; exact this.1
    · rw [List.getElem?_append_right (by omega), show [x.1, x.2.1, x.2.2].length + j * 3 + 1 - [x.1, x.2.1, x.2.2].length = j * 3 + 1 by omega]; exact this.2.1
    · rw [List.getElem?_append_right (by omega), show [x.1, x.2.1, x.2.2].length + j * 3 + 2 - [x.1, x.2.1, x.2.2].length = j * 3 + 2 by omega]; exact this.2.2

/-- A row of items of the call's own: none of them lies in the row's own block. -/
def RowK (W : World) (base : Nat) (sv : Value) (ks : List It) : Prop :=
  ∃ vs : List (Value × Value × Value), vs.length = ks.length ∧ W.ownsRow base 29 3 sv ks.length (flat3 vs) ∧ ∀ (j : Nat) (k : It) (v : Value × Value × Value), ks[j]? = some k → vs[j]? = some v → ItemS W (fun b => base ≤ b ∧ sv.ownBlock ≠ some b) k (.agg #[v.1, v.2.1, v.2.2])
theorem owns_cells {A X : World} {base : Nat} {e : TypeId} {size n : Nat} {v : Value} {xs : List Value} (h : A.ownsRow base e size v n xs) (hk : ∀ (b : Nat) (o : Obj), base ≤ b → A.heap[b]? = some o → o.isCells = true → X.heap[b]? = some o) : X.ownsRow base e size v n xs := by
  refine ⟨h.1, ?_⟩
  rcases h.2 with h' | ⟨g, cap, cur, e1, e2, e3, e4⟩
  · exact .inl h'
  · exact .inr ⟨g, cap, cur, e1, e2, hk g _ e2 e3 rfl, e4⟩
theorem RowK.keep {A X : World} {base : Nat} {sv : Value} {ks : List It} (h : RowK A base sv ks) (hk : ∀ (b : Nat) (o : Obj), base ≤ b → A.heap[b]? = some o → o.isCells = true → X.heap[b]? = some o) : RowK X base sv ks := by
  obtain ⟨vs, h1, h2, h3⟩ := h
  exact ⟨vs, h1, owns_cells h2 hk, fun j k v hj hv => (h3 j k v hj hv).keepC (fun b o hb ho hc => hk b o hb.1 ho hc) (fun b hb _ => hb)⟩
theorem RowK.later {A X : World} {base : Nat} {sv : Value} {ks : List It} (h : RowK A base sv ks) (hb : Below A.heap.size A X) : RowK X base sv ks :=
  h.keep (fun b _ _ ho _ => (hb.block b (Array.getElem?_eq_some_iff.1 ho).1).trans ho)
theorem RowK.nil (W : World) (base : Nat) : RowK W base (.slice none 0 0) [] := ⟨[], rfl, World.ownsRow_nil _ _ _ _, fun j k v hj => by simp at hj⟩
theorem RowK.shape {A : World} {base : Nat} {sv : Value} {ks : List It} (h : RowK A base sv ks) : ∃ a c, sv = .slice a ks.length c := by
  obtain ⟨vs, h1, h2, h3⟩ := h
  rcases h2.2 with ⟨rfl, h0⟩ | ⟨g, cap, cur, rfl, _⟩
  · exact ⟨none, 0, by rw [h0]⟩
  · exact ⟨_, _, rfl⟩
theorem RowK.block {A : World} {base : Nat} {sv : Value} {ks : List It} (h : RowK A base sv ks) {b : Nat} (hb : sv.ownBlock = some b) : base ≤ b ∧ ∃ cs, A.heap[b]? = some (.cells cs 29 (0, 0)) := by
  obtain ⟨vs, h1, h2, h3⟩ := h
  rcases h2.2 with ⟨rfl, h0⟩ | ⟨g, cap, cur, rfl, hbg, hg', _⟩
  · cases hb
  · injection hb with hb
    subst hb
    exact ⟨hbg, cur, hg'⟩
/-- A list of such items is an item. -/
theorem RowK.item {A : World} {base : Nat} {sv : Value} {ks : List It} (h : RowK A base sv ks) (hn : ks.length ≤ 1099511627776) : ItemS A (fun b => base ≤ b) (.mk true ⟨#[]⟩ ks) (.agg #[.bool true, .string ⟨#[]⟩, sv]) := by
  obtain ⟨vs, h1, h2, h3⟩ := h
  rcases h2.2 with ⟨rfl, h0⟩ | ⟨g, cap, cur, rfl, hbg, hg', hnc, hcm, hcs, htake⟩
  · have hk : ks = [] := List.eq_nil_of_length_eq_zero h0
    subst hk
    exact ItemS.mk' (t := .mk true ⟨#[]⟩ []) hn (show 0 ≤ 140737488355328 by omega) (.inl rfl)
  · refine ItemS.mk' (t := .mk true ⟨#[]⟩ ks) hn (show 0 ≤ 140737488355328 by omega) (.inr ⟨g, 0, rfl, hbg, KidsS.of_get (fun j k hj => ?_)⟩)
    have hjl : j < vs.length := by rw [h1]; exact (List.getElem?_eq_some_iff.1 hj).1
    obtain ⟨v, hv⟩ : ∃ v, vs[j]? = some v := ⟨_, List.getElem?_eq_getElem hjl⟩
    obtain ⟨f0, f1, f2⟩ := flat3_at vs j v hv
    have hc := World.ownsRow.cells h2 (g := g) rfl
    have ha : ∀ i, (⟨g, 0, none⟩ : Addr).add i = ⟨g, i, none⟩ := fun i => by unfold Addr.add; split <;> simp_all
    have c0 := hc _ _ f0
    have c1 := hc _ _ f1
    have c2 := hc _ _ f2
    rw [ha] at c0 c1 c2
    rw [Nat.zero_add]
    exact ⟨v.1, v.2.1, v.2.2, c0, c1, c2, (h3 j k v hj hv).mono (fun b hb _ => hb.1)⟩
end Go.Proofs.YtbbpmcebakckaaaGreatDoor

/- Cells onto a row of the call's own, whatever their source; the row's block is the elder one, or a new one. -/
namespace Go.Proofs.YtbbpmcebakckaaaGreatDoor
open Go Go.RowKit
variable {P : Program} (w : World)

theorem run_append_src (base : Nat) (t tx ty e : TypeId) (i : TypeInfo) (z : Value) (size bytes : Nat) (ht : P.underlying t = some (.slice e)) (hi : P.info? e = some i) (hz : i.zero = some z)
    (hsize : i.size = size) (hby : i.bytes = bytes) (hzs : z.cells.size = size) (hs0 : 0 < size) (v : Value) (n : Nat) (xs : List Value) (hown : w.ownsRow base e size v n xs)
    (x : Value) (m : Nat) (hm : 0 < m) (news : List Value) (hsrc : Src P i.size tx x m news w)
    (hb : (n + m) * bytes ≤ 140737488355328) (h63 : n + m ≤ maxLen) (hbase : base ≤ w.heap.size) :
    ∃ v' w', (Builtin.append_ #[t, tx] ty #[v, x]).run P w = .ok v' w' ∧ w'.ownsRow base e size v' (n + m) (xs ++ news) ∧ w.grownBy w' v.ownBlock ∧ NewBlock w v v' := by
  have hl : news.length = m * size := by rw [← hsize]; exact hsrc.newsLen
  have hlen : (xs ++ news).length = (n + m) * size := by rw [List.length_append, hown.1, hl, Nat.add_mul]
  have grown : ∀ (old : Nat), old < n + m → ∀ (row : Option Nat),
      (w.drew.alloc (.cells (xs.toArray ++ news.toArray ++ Builtin.zeroCells z.cells (grownCap w (n + m) old e - (n + m))) e)).ownsRow base e size
        (.slice (some ⟨w.heap.size, 0, none⟩) (n + m) (grownCap w (n + m) old e)) (n + m) (xs ++ news) ∧
      w.grownBy (w.drew.alloc (.cells (xs.toArray ++ news.toArray ++ Builtin.zeroCells z.cells (grownCap w (n + m) old e - (n + m))) e)) row := by
    intro old ho row
    have hge := grownCap_ge w (n + m) old e
    have hcm : grownCap w (n + m) old e ≤ maxLen := grownCap_le_maxLen w (n + m) old e h63
    refine ⟨⟨hlen, .inr ⟨w.heap.size, _, _, rfl, hbase, heap_alloc_new w.drew _, hge, hcm, ?_, ?_⟩⟩, ⟨rfl, rfl, rfl, by simp, fun k hk _ => Below.heap_alloc w.drew _ k hk⟩⟩
    · simp only [Array.size_append, List.size_toArray, size_zeroCells, hzs, hown.1, hl, ← Nat.add_mul]
      congr 1
      omega
    · simp only [Array.toList_append, List.append_assoc]
      rw [← List.append_assoc, ← hlen]
      exact List.take_left
  rcases hown.2 with ⟨rfl, rfl⟩ | ⟨g, cap, cur, rfl, hbg, hg, hnc, hcm, hcs, htake⟩
  · have hx : xs = [] := List.eq_nil_of_length_eq_zero (by simpa using hown.1)
    subst hx
    have hr := run_append_grow_src (P := P) w t tx ty e i z ht hi hz none 0 0 [] (by simp [Builtin.firstCells]) x m news hsrc (by omega) (by simp only [maxLen] at h63; omega) (growslice_fits (by omega) (by rw [hby]; exact hb))
    have hgr := grown 0 (by omega) (Value.ownBlock (.slice none 0 0))
    simp only [List.nil_append, Array.empty_append, Nat.zero_add] at hr hgr ⊢
    exact ⟨_, _, hr, hgr.1, hgr.2, .inr rfl⟩
  · by_cases hroom : n + m ≤ cap
    · have hfit : n * i.size + news.length ≤ cur.size := by rw [hl, hcs, hsize, ← Nat.add_mul]; exact Nat.mul_le_mul_right _ hroom
      have hst := run_storeCells_at P g (n * i.size) e news 0 cur w hg (by simpa using hfit) hsrc.one
      simp only [Nat.add_zero] at hst
      have hr : (Builtin.append_ #[t, tx] ty #[.slice (some ⟨g, 0, none⟩) n cap, x]).run P w = .ok (.slice (some ⟨g, 0, none⟩) (n + m) cap) (w.setRow g (cur.toList.take (n * i.size) ++ news ++ cur.toList.drop (n * i.size + news.length)).toArray) := by
        rcases hsrc.kind with ⟨e', hk⟩ | hk <;> simp [Builtin.append_, run_underlying ht, run_underlying hk, sizeOf, typeInfo, hi, hsrc.len, hroom, hsrc.cells, Addr.add_lit, hst]
      rw [hsize] at hr
      refine ⟨_, _, hr, ⟨hlen, .inr ⟨g, cap, _, rfl, hbg, setRow_heap w g cur _ e _ hg, hroom, hcm, ?_, ?_⟩⟩, ⟨rfl, rfl, rfl, by simp, fun k _ hk => setRow_other w g k _ (fun e => hk (by simp [Value.ownBlock, e]))⟩, .inl rfl⟩
      · rw [hsize] at hfit
        simp only [List.size_toArray, List.length_append, List.length_take, List.length_drop, Array.length_toList]
        omega
      · rw [htake, ← hlen]
        exact List.take_left
    · have holds : (Builtin.firstCells i.size n (.slice (some ⟨g, 0, none⟩) n cap)).run P w.drew = .ok xs.toArray w.drew := by
        rw [hsize]
        exact run_firstCells_some w.drew size n ⟨g, 0, none⟩ n cap xs hown.1 (fun j u hj => by
          have := hown.cells (g := g) rfl j u hj
          simpa using this)
      have hr := run_append_grow_src (P := P) w t tx ty e i z ht hi hz (some ⟨g, 0, none⟩) n cap xs holds x m news hsrc (by omega) (by simp only [maxLen] at h63; omega) (growslice_fits (by omega) (by rw [hby]; exact hb))
      have hgr := grown cap (by omega) (Value.ownBlock (.slice (some ⟨g, 0, none⟩) n cap))
      have hap : ((xs ++ news).toArray : Array Value) = xs.toArray ++ news.toArray := by simp
      rw [hap] at hr
      exact ⟨_, _, hr, hgr.1, hgr.2, .inr rfl⟩

theorem wpList_append_src {ops : Array Oper} {rest : List Oper} {o : Oper} {a : Act} {Q : Exit → Act → World → Prop} (hgd : o.guard = none) (s x : Operand) (t tx : TypeId)
    (ho : o.op = .call { callee := .builtin .append, args := #[s, x], argTypes := #[t, tx] })
    (base : Nat) (e : TypeId) (i : TypeInfo) (z : Value) (size bytes : Nat) (ht : P.underlying t = some (.slice e)) (hi : P.info? e = some i) (hz : i.zero = some z)
    (hsize : i.size = size) (hby : i.bytes = bytes) (hzs : z.cells.size = size) (hs0 : 0 < size) (v : Value) (n : Nat) (xs : List Value) (hs : a.eval s = v) (hown : w.ownsRow base e size v n xs)
    (xv : Value) (m : Nat) (hm : 0 < m) (news : List Value) (hx : a.eval x = xv) (hsrc : Src P i.size tx xv m news w)
    (hb : (n + m) * bytes ≤ 140737488355328) (h63 : n + m ≤ maxLen) (hbase : base ≤ w.heap.size)
    (h : ∀ v' w', w'.ownsRow base e size v' (n + m) (xs ++ news) → w.grownBy w' v.ownBlock → NewBlock w v v' → wpList P ops Q rest (a.put o.dst v') w') : wpList P ops Q (o :: rest) a w := by
  refine wpList_plain hgd fun K hK => ?_
  obtain ⟨v', w', hr, h2, h3, h4⟩ := run_append_src (P := P) w base t tx o.type e i z size bytes ht hi hz hsize hby hzs hs0 v n xs hown xv m hm news hsrc hb h63 hbase
  unfold Oper.wp execOp
  simp only [ho, resolve, invoke, builtin, Sem.run_bind, Sem.run_pure, Result.andThen_ok, List.map_toArray, List.map_cons, List.map_nil, hs, hx, hr]
  exact hK _ _ (h v' w' h2 h3 h4)
end Go.Proofs.YtbbpmcebakckaaaGreatDoor

/- One item more behind a row of a list's kids (a drawn region of the reader's list). Conditions: the row, the list's box and the kid's box lie in memory. -/
namespace Go.Proofs.YtbbpmcebakckaaaGreatDoor
open Go Go.RowKit
attribute [local go_sem] Oper.semAt_some Grows wide_fn

/-- Nothing that was there is turned, but for a box and a row. -/
def TwoB (Bo : Nat) (sv : Value) (W y : World) : Prop := (y.os = W.os ∧ y.tape = W.tape ∧ y.output = W.output ∧ W.heap.size ≤ y.heap.size) ∧ ∀ k, k < W.heap.size → k ≠ Bo → sv.ownBlock ≠ some k → y.heap[k]? = W.heap[k]?
theorem TwoB.refl (Bo : Nat) (sv : Value) (W : World) : TwoB Bo sv W W := ⟨⟨rfl, rfl, rfl, Nat.le_refl _⟩, fun _ _ _ _ => rfl⟩
theorem TwoB.below {Bo : Nat} {sv : Value} {W y z : World} (h : TwoB Bo sv W y) (hb : Below y.heap.size y z) : TwoB Bo sv W z :=
  ⟨⟨hb.os.trans h.1.1, hb.tape.trans h.1.2.1, hb.output.trans h.1.2.2.1, Nat.le_trans h.1.2.2.2 hb.size⟩, fun k hk h1 h2 => (hb.block k (Nat.lt_of_lt_of_le hk h.1.2.2.2)).trans (h.2 k hk h1 h2)⟩
theorem TwoB.set {Bo : Nat} {sv : Value} {W y : World} (h : TwoB Bo sv W y) {p : Addr} (hp : p.block = Bo ∨ sv.ownBlock = some p.block ∨ W.heap.size ≤ p.block) (u : Value) : TwoB Bo sv W (y.setCell p u) :=
  ⟨⟨h.1.1, h.1.2.1, h.1.2.2.1, by simpa [World.setCell] using h.1.2.2.2⟩, fun k hk h1 h2 => (Below.heap_setCell y p u k (fun e => by
    rcases hp with hp | hp | hp
    · exact h1 (e.trans hp)
    · exact h2 (by rw [hp, e])
    · omega)).trans (h.2 k hk h1 h2)⟩
theorem TwoB.row {Bo : Nat} {sv v : Value} {W y z : World} (h : TwoB Bo sv W y) (hg : y.grownBy z v.ownBlock) (hv : v.ownBlock = sv.ownBlock ∨ ∀ b, v.ownBlock = some b → W.heap.size ≤ b) : TwoB Bo sv W z :=
  ⟨⟨hg.os.trans h.1.1, hg.tape.trans h.1.2.1, hg.output.trans h.1.2.2.1, Nat.le_trans h.1.2.2.2 hg.size⟩, fun k hk h1 h2 => (hg.block k (Nat.lt_of_lt_of_le hk h.1.2.2.2) (fun e => by
    rcases hv with hv | hv
    · exact h2 (by rw [← hv, e])
    · have := hv k e.symm; omega)).trans (h.2 k hk h1 h2)⟩
/-- Three cells of a row are turned. -/
theorem owns_set3 {y : World} {base n : Nat} {v : Value} {xs : List Value} {gb : Nat} (h : y.ownsRow base 29 3 v (n + 1) (xs ++ [.bool false, .string ⟨#[]⟩, .slice none 0 0])) (hx : xs.length = n * 3) (hv : v.ownBlock = some gb) (u0 u1 u2 : Value) :
    (((y.setCell ⟨gb, n * 3, none⟩ u0).setCell ⟨gb, n * 3 + 1, none⟩ u1).setCell ⟨gb, n * 3 + 2, none⟩ u2).ownsRow base 29 3 v (n + 1) (xs ++ [u0, u1, u2]) ∧ (∃ cs, Has y gb 29 cs ∧ n * 3 + 2 < cs.size) := by
  rcases h.2 with ⟨rfl, h0⟩ | ⟨g, cap, cur, rfl, hbg, hg, hnc, hcm, hcs, htake⟩
  · cases hv
  · injection hv with hv
    subst hv
    have hH : Has y g 29 cur := hg
    have hsz : n * 3 + 2 < cur.size := by rw [hcs]; omega
    refine ⟨⟨by simp; omega, .inr ⟨g, cap, _, rfl, hbg, ((hH.set (n * 3) u0).set (n * 3 + 1) u1).set (n * 3 + 2) u2, hnc, hcm, by simp [hcs], ?_⟩⟩, cur, hH, hsz⟩
    apply List.ext_getElem?
    intro j
    have ht : ∀ j : Nat, (cur.toList.take ((n + 1) * 3))[j]? = (xs ++ [Value.bool false, .string ⟨#[]⟩, .slice none 0 0])[j]? := fun j => by rw [htake]
    rw [List.getElem?_take]
    by_cases hj : j < (n + 1) * 3
    · rw [if_pos hj]
      have htj := ht j
      rw [List.getElem?_take, if_pos hj] at htj
      simp only [Array.toList_setIfInBounds, List.getElem?_set]
      by_cases h1 : j < n * 3
      · rw [if_neg (by omega), if_neg (by omega), if_neg (by omega), htj, List.getElem?_append_left (by omega), List.getElem?_append_left (by omega)]
      · obtain ⟨i, hi⟩ : ∃ i, j = xs.length + i := ⟨j - n * 3, by omega⟩
        have hi3 : i < 3 := by omega
        rw [show (xs ++ [u0, u1, u2])[j]? = [u0, u1, u2][i]? by rw [hi, List.getElem?_append_right (by omega), Nat.add_sub_cancel_left]]
        have : i = 0 ∨ i = 1 ∨ i = 2 := by omega
        rcases this with rfl | rfl | rfl
        · rw [if_neg (by omega), if_neg (by omega), if_pos (by omega)]
          simp; omega
        · rw [if_neg (by omega), if_pos (by omega)]
          simp; omega
        · rw [if_pos (by omega)]
          simp; omega
    · rw [if_neg hj, List.getElem?_eq_none]
      simp; omega
end Go.Proofs.YtbbpmcebakckaaaGreatDoor
