import Derived.Test.YtadfkiebblmfkaaGreatDoorS02
import Derived.Test.YtadfkiebblmfkaaGreatDoorS06
/- Items, and their bytes, as plain data: the model. Conditions: none. -/
namespace Go.Proofs.YtadfkiebblmfkaaGreatDoor

inductive It where
  | mk (list : Bool) (bytes : ByteArray) (kids : List It)
def It.kids : It → List It
  | .mk _ _ ks => ks
def It.bytes : It → ByteArray
  | .mk _ b _ => b
def It.list : It → Bool
  | .mk l _ _ => l
theorem It.eta (t : It) : t = .mk t.list t.bytes t.kids := by cases t; rfl
theorem It.lt_of_kid {l : Bool} {b : ByteArray} {ks : List It} {k : It} (h : k ∈ ks) : SizeOf.sizeOf k < SizeOf.sizeOf (It.mk l b ks) := by
  have := List.sizeOf_lt_of_mem h
  simp only [It.mk.sizeOf_spec]
  omega
theorem It.kid_lt {t k : It} (h : k ∈ t.kids) : SizeOf.sizeOf k < SizeOf.sizeOf t := by
  obtain ⟨l, b, ks⟩ := t
  exact It.lt_of_kid h
theorem It.induct {P : It → Prop} (h : ∀ t, (∀ k ∈ t.kids, P k) → P t) : ∀ t, P t := by
  have H : ∀ (n : Nat) (t : It), SizeOf.sizeOf t < n → P t := by
    intro n
    induction n with
    | zero => intro t h; omega
    | succ n ih => intro t ht; exact h t (fun k hk => ih k (by have := It.kid_lt hk; omega))
  exact fun t => H _ t (Nat.lt_succ_self _)

/-- The number of a list of bytes, the highest one first. -/
def val256 : Nat → List UInt8 → Nat
  | n, [] => n
  | n, c :: r => val256 (n * 256 + c.toNat) r
/-- Without the noughts ahead. -/
def noNought : List UInt8 → List UInt8
  | [] => []
  | c :: r => if c = 0 then noNought r else c :: r
/-- A number's digits to the base 256, without a nought ahead. -/
def digs (n : Nat) : List UInt8 := if h : n = 0 then [] else digs (n / 256) ++ [UInt8.ofNat (n % 256)]
decreasing_by omega

/-- A head of that kind, ahead of so many bytes. -/
def headL (kind n : Nat) : List UInt8 := if n ≤ 55 then [UInt8.ofNat (kind + n)] else UInt8.ofNat (kind + 55 + (digs n).length) :: digs n
/-- Does a text stand for itself? -/
def bareB (l : List UInt8) : Bool := match l with
  | [c] => decide (c.toNat < 128)
  | _ => false
mutual
/-- An item's bytes. -/
def encI : It → List UInt8
  | .mk l b ks => if l then headL 192 (encL ks).length ++ encL ks else if bareB b.data.toList then b.data.toList else headL 128 b.data.toList.length ++ b.data.toList
def encL : List It → List UInt8
  | [] => []
  | k :: ks => encI k ++ encL ks
end
theorem encL_append : ∀ (a b : List It), encL (a ++ b) = encL a ++ encL b
  | [], b => by simp [encL]
  | x :: a, b => by simp [encL, encL_append a b]

/-- What a reading comes to: what is read, the place behind it and how many items were read, or an error and its place. -/
inductive Rd (α : Type) where
  | ok (x : α) (at' many : Nat)
  | no (e pl : Nat)

/-- Byte j of a text; nought beyond it. -/
def byteAt (s : List UInt8) (j : Nat) : Nat := (s.getD j 0).toNat

/-- The head at a place: where what it is ahead of begins, and how many bytes that is. -/
def rdHead (s : List UInt8) (told e a : Nat) : Rd Nat :=
  if told ≤ 55 then (if a + 1 + told ≤ e then .ok told (a + 1) 0 else .no 10 a)
  else if e < a + 1 + (told - 55) then .no 10 a
  else
    let ds := (s.drop (a + 1)).take (told - 55)
    let n := val256 0 ds
    if byteAt s (a + 1) = 0 ∨ n ≤ 55 then .no 11 (a + 1)
    else if a + 1 + (told - 55) + n ≤ e then .ok n (a + 1 + (told - 55)) 0 else .no 10 a

/-- Items, one behind the other, up to an end. -/
def rdLoop (rd : Nat → Nat → Rd It) (e : Nat) : Nat → Nat → Nat → List It → Rd (List It)
  | 0, a, m, acc => .ok acc a m
  | f + 1, a, m, acc => if a < e then (match rd a m with
      | .no x p => .no x p
      | .ok t a' m' => rdLoop rd e f a' m' (acc ++ [t])) else .ok acc a m

def capI : Nat := 5000
def capB : Nat := 1048576
/-- So many items, one behind the other. -/
def runK (rd : Nat → Nat → Rd It) (a0 m0 : Nat) : Nat → Rd (List It)
  | 0 => .ok [] a0 m0
  | k + 1 => match runK rd a0 m0 k with
    | .no x p => .no x p
    | .ok acc a m => match rd a m with
      | .no x p => .no x p
      | .ok t a' m' => .ok (acc ++ [t]) a' m'
theorem runK_ok {rd : Nat → Nat → Rd It} {a0 m0 k a m : Nat} {acc : List It} (h : runK rd a0 m0 k = .ok acc a m) {t : It} {a' m' : Nat} (h' : rd a m = .ok t a' m') : runK rd a0 m0 (k + 1) = .ok (acc ++ [t]) a' m' := by
  rw [runK, h]; simp only; rw [h']
theorem runK_no {rd : Nat → Nat → Rd It} {a0 m0 k a m : Nat} {acc : List It} (h : runK rd a0 m0 k = .ok acc a m) {x p : Nat} (h' : rd a m = .no x p) : runK rd a0 m0 (k + 1) = .no x p := by
  rw [runK, h]; simp only; rw [h']
/-- Up to an end so many rounds are made. -/
theorem loop_run {rd : Nat → Nat → Rd It} {e a0 m0 : Nat} (hrd : ∀ b n t a' m', b < e → rd b n = .ok t a' m' → b < a') :
    ∀ (f k a m : Nat) (acc : List It), runK rd a0 m0 k = .ok acc a m → e ≤ a + f →
      ∃ N, k ≤ N ∧ (∀ j, k ≤ j → j < N → ∃ acc a m, runK rd a0 m0 j = .ok acc a m ∧ a < e) ∧ (∀ acc a m, runK rd a0 m0 N = .ok acc a m → e ≤ a) ∧ rdLoop rd e f a m acc = runK rd a0 m0 N
  | 0, k, a, m, acc, h, hf => ⟨k, Nat.le_refl _, fun j h1 h2 => absurd h2 (by omega), fun acc' a' m' h' => by rw [h] at h'; injection h' with _ h' _; omega, by rw [rdLoop, h]⟩
  | f + 1, k, a, m, acc, h, hf => by
    rw [rdLoop]
    by_cases ha : a < e
    · rw [if_pos ha]
      rcases hr : rd a m with ⟨t, a', m'⟩ | ⟨x, p⟩
      · have hk := runK_ok h hr
        have hlt := hrd _ _ _ _ _ ha hr
        obtain ⟨N, h1, h2, h3, h4⟩ := loop_run hrd f (k + 1) a' m' (acc ++ [t]) hk (by omega)
        refine ⟨N, by omega, fun j hj hjN => ?_, h3, h4⟩
        by_cases hjk : j = k
        · subst hjk; exact ⟨acc, a, m, h, ha⟩
        · exact h2 j (by omega) hjN
      · have hk := runK_no h hr
        refine ⟨k + 1, by omega, fun j hj hjN => ?_, (fun acc' a' m' h' => by rw [hk] at h'; cases h'), hk.symm⟩
        obtain rfl : j = k := by omega
        exact ⟨acc, a, m, h, ha⟩
    · rw [if_neg ha]
      exact ⟨k, Nat.le_refl _, fun j h1 h2 => absurd h2 (by omega), fun acc' a' m' h' => by rw [h] at h'; injection h' with _ h' _; omega, h.symm⟩
/-- One item, up to an end; lp reads a list's items. -/
def rdStep (M : Nat) (s : List UInt8) (lp : Nat → Nat → Nat → Rd (List It)) (e a m : Nat) : Rd It :=
  if M ≤ m then .no 2 a
  else if e ≤ a then .no 10 a
  else if byteAt s a < 128 then .ok (.mk false ⟨((s.drop a).take 1).toArray⟩ []) (a + 1) (m + 1)
  else if byteAt s a < 192 then (match rdHead s (byteAt s a - 128) e a with
    | .no x p => .no x p
    | .ok n fr _ => if bareB ((s.drop fr).take n) then .no 11 a else .ok (.mk false ⟨((s.drop fr).take n).toArray⟩ []) (fr + n) (m + 1))
  else (match rdHead s (byteAt s a - 192) e a with
    | .no x p => .no x p
    | .ok n fr _ => (match lp (fr + n) fr (m + 1) with
      | .no x p => .no x p
      | .ok ks a' m' => .ok (.mk true ⟨#[]⟩ ks) a' m'))
/-- One item, up to an end, where so many may be one within the other. -/
def rdItem (M : Nat) (s : List UInt8) : Nat → Nat → Nat → Nat → Rd It
  | 0, _, a, _ => .no 13 a
  | d + 1, e, a, m => rdStep M s (fun e' fr m' => rdLoop (rdItem M s d e') e' (e' - fr) fr m' []) e a m

/-- A text, as one item. -/
def rdAll (s : List UInt8) : Rd It :=
  if capB < s.length then .no 2 0
  else match rdItem capI s 16 s.length 0 0 with
    | .no x p => .no x p
    | .ok t a m => if a < s.length then .no 12 a else .ok t a m

mutual
/-- How many items there are in one. -/
def countI : It → Nat
  | .mk _ _ ks => 1 + countL ks
def countL : List It → Nat
  | [] => 0
  | k :: ks => countI k + countL ks
end
theorem countI_eq (t : It) : countI t = 1 + countL t.kids := by
  obtain ⟨l, b, ks⟩ := t
  rw [countI]
  rfl
theorem countI_pos (t : It) : 1 ≤ countI t := by rw [countI_eq]; omega
theorem countL_append : ∀ (a b : List It), countL (a ++ b) = countL a + countL b
  | [], b => by simp [countL]
  | x :: a, b => by simp [countL, countL_append a b]; omega
/-- An item is right within so many. -/
def RightI : Nat → It → Prop
  | 0, _ => False
  | d + 1, t => (t.list = true → t.bytes = ⟨#[]⟩) ∧ (t.list = false → t.kids.length = 0) ∧ ∀ k ∈ t.kids, RightI d k
end Go.Proofs.YtadfkiebblmfkaaGreatDoor

/- Items (trees of texts and lists), and how they lie in memory. -/
namespace Go.Proofs.YtadfkiebblmfkaaGreatDoor
open Go Go.RowKit

mutual
/-- A value is an item: its flag, its bytes, and a slice of items (three cells each). -/
def ItemAt (W : World) : It → Value → Prop
  | .mk l b ks, v => ∃ a cap, v = .agg #[.bool l, .string b, .slice a ks.length cap] ∧ ks.length ≤ 1099511627776 ∧ b.size ≤ 140737488355328 ∧ (ks = [] ∨ ∃ g o, a = some ⟨g, o, none⟩ ∧ KidsAt W ks g o)
def KidsAt (W : World) : List It → Nat → Nat → Prop
  | [], _, _ => True
  | k :: ks, g, o => (∃ v0 v1 v2, W.cell? ⟨g, o, none⟩ = some v0 ∧ W.cell? ⟨g, o + 1, none⟩ = some v1 ∧ W.cell? ⟨g, o + 2, none⟩ = some v2 ∧ ItemAt W k (.agg #[v0, v1, v2])) ∧ KidsAt W ks g (o + 3)
end

theorem ltCell {W : World} {b j : Nat} {v : Value} (h : W.cell? ⟨b, j, none⟩ = some v) : b < W.heap.size := by
  rcases Nat.lt_or_ge b W.heap.size with h' | h'
  · exact h'
  · simp [World.cell?, Array.getElem?_eq_none h'] at h

mutual
theorem ItemAt.later {W X : World} (hb : Below W.heap.size W X) : ∀ {t : It} {v : Value}, ItemAt W t v → ItemAt X t v
  | .mk l b ks, v, h => by
    unfold ItemAt at h ⊢
    obtain ⟨a, cap, hv, hn, hs, hk⟩ := h
    refine ⟨a, cap, hv, hn, hs, ?_⟩
    rcases hk with h0 | ⟨g, o, ha, hk⟩
    · exact .inl h0
    · exact .inr ⟨g, o, ha, KidsAt.later hb hk⟩
theorem KidsAt.later {W X : World} (hb : Below W.heap.size W X) : ∀ {ks : List It} {g o : Nat}, KidsAt W ks g o → KidsAt X ks g o
  | [], _, _, _ => by unfold KidsAt; trivial
  | k :: ks, g, o, h => by
    unfold KidsAt at h ⊢
    obtain ⟨⟨v0, v1, v2, h0, h1, h2, hk⟩, hr⟩ := h
    exact ⟨⟨v0, v1, v2, (hb.cell (p := ⟨g, o, none⟩) (ltCell h0)).trans h0, (hb.cell (p := ⟨g, o + 1, none⟩) (ltCell h0)).trans h1, (hb.cell (p := ⟨g, o + 2, none⟩) (ltCell h0)).trans h2, ItemAt.later hb hk⟩, KidsAt.later hb hr⟩
end

theorem KidsAt.get {W : World} : ∀ {ks : List It} {g o : Nat} (_ : KidsAt W ks g o) (j : Nat) (k : It), ks[j]? = some k →
    ∃ v0 v1 v2, W.cell? ⟨g, o + j * 3, none⟩ = some v0 ∧ W.cell? ⟨g, o + j * 3 + 1, none⟩ = some v1 ∧ W.cell? ⟨g, o + j * 3 + 2, none⟩ = some v2 ∧ ItemAt W k (.agg #[v0, v1, v2])
  | [], _, _, _, j, k, h => by simp at h
  | k0 :: ks, g, o, hK, 0, k, h => by
    unfold KidsAt at hK
    simp at h
    subst h
    simpa using hK.1
  | k0 :: ks, g, o, hK, j + 1, k, h => by
    unfold KidsAt at hK
    have h' : ks[j]? = some k := by simpa using h
    obtain ⟨v0, v1, v2, h0, h1, h2, hi⟩ := KidsAt.get hK.2 j k h'
    rw [show o + 3 + j * 3 = o + (j + 1) * 3 by omega] at h0 h1 h2
    exact ⟨v0, v1, v2, h0, h1, h2, hi⟩

/-- An item's parts, opened. -/
theorem ItemAt.open {W : World} {t : It} {v : Value} (h : ItemAt W t v) :
    ∃ a cap, v = .agg #[.bool t.list, .string t.bytes, .slice a t.kids.length cap] ∧ t.kids.length ≤ 1099511627776 ∧ t.bytes.size ≤ 140737488355328 ∧ (t.kids = [] ∨ ∃ g o, a = some ⟨g, o, none⟩ ∧ KidsAt W t.kids g o) := by
  obtain ⟨l, b, ks⟩ := t
  unfold ItemAt at h
  exact h

theorem cell_block {W : World} {b j : Nat} {v : Value} (h : W.cell? ⟨b, j, none⟩ = some v) : ∃ o, W.heap[b]? = some o ∧ o.isCells = true := by
  unfold World.cell? at h
  rcases ho : W.heap[b]? with _ | o
  · simp [ho] at h
  · refine ⟨o, rfl, ?_⟩
    cases o <;> simp_all [Obj.isCells]
/-- What keeps all blocks of cells. -/
def KeepsCells (A X : World) : Prop := ∀ (b : Nat) (o : Obj), A.heap[b]? = some o → o.isCells = true → X.heap[b]? = some o
theorem KeepsCells.cell {A X : World} (hk : KeepsCells A X) {b j : Nat} {v : Value} (h : A.cell? ⟨b, j, none⟩ = some v) : X.cell? ⟨b, j, none⟩ = some v := by
  obtain ⟨o, h1, h2⟩ := cell_block h
  have h3 := hk b o h1 h2
  rw [← h]
  exact World.cell?_of_block (h3.trans h1.symm)
mutual
theorem ItemAt.keep {W X : World} (hb : KeepsCells W X) : ∀ {t : It} {v : Value}, ItemAt W t v → ItemAt X t v
  | .mk l b ks, v, h => by
    unfold ItemAt at h ⊢
    obtain ⟨a, cap, hv, hn, hs, hk⟩ := h
    refine ⟨a, cap, hv, hn, hs, ?_⟩
    rcases hk with h0 | ⟨g, o, ha, hk⟩
    · exact .inl h0
    · exact .inr ⟨g, o, ha, KidsAt.keep hb hk⟩
theorem KidsAt.keep {W X : World} (hb : KeepsCells W X) : ∀ {ks : List It} {g o : Nat}, KidsAt W ks g o → KidsAt X ks g o
  | [], _, _, _ => by unfold KidsAt; trivial
  | k :: ks, g, o, h => by
    unfold KidsAt at h ⊢
    obtain ⟨⟨v0, v1, v2, h0, h1, h2, hk⟩, hr⟩ := h
    exact ⟨⟨v0, v1, v2, hb.cell h0, hb.cell h1, hb.cell h2, ItemAt.keep hb hk⟩, KidsAt.keep hb hr⟩
end
theorem keeps_own {A X : World} {row : Option Nat} (hg : A.grownBy X row) (hr : ∀ r, row = some r → ∃ o : Obj, A.heap[r]? = some o ∧ o.isCells = false) : KeepsCells A X := fun b o ho hc =>
  (hg.block b (Array.getElem?_eq_some_iff.1 ho).1 (fun e => by
    obtain ⟨o', ho', hc'⟩ := hr b e.symm
    rw [ho] at ho'
    cases ho'
    rw [hc] at hc'
    cases hc')).trans ho

/-- A kid's three cells, opened. -/
theorem KidsAt.get3 {W : World} {ks : List It} {g o : Nat} (hK : KidsAt W ks g o) (j : Nat) (k : It) (h : ks[j]? = some k) :
    ∃ l b a n cap, W.cell? ⟨g, o + j * 3, none⟩ = some (.bool l) ∧ W.cell? ⟨g, o + j * 3 + 1, none⟩ = some (.string b) ∧ W.cell? ⟨g, o + j * 3 + 2, none⟩ = some (.slice a n cap) ∧ ItemAt W k (.agg #[.bool l, .string b, .slice a n cap]) := by
  obtain ⟨v0, v1, v2, h0, h1, h2, hi⟩ := hK.get j k h
  obtain ⟨a, cap, hv, _⟩ := hi.open
  injection hv with hv
  injection hv with hv
  injection hv with e0 hv
  injection hv with e1 hv
  injection hv with e2 hv
  subst e0 e1 e2
  exact ⟨_, _, _, _, _, h0, h1, h2, hi⟩

/-- Whether two items are the same. -/
noncomputable def sameI (t u : It) : Bool := @decide (t = u) (Classical.propDecidable _)
theorem sameI_iff (t u : It) : sameI t u = true ↔ t = u := by unfold sameI; exact @decide_eq_true_iff _ (Classical.propDecidable _)
theorem sameI_false {t u : It} (h : t ≠ u) : sameI t u = false := by
  rcases hb : sameI t u with _ | _
  · rfl
  · exact absurd ((sameI_iff t u).1 hb) h
theorem sameI_refl (t : It) : sameI t t = true := (sameI_iff t t).2 rfl
end Go.Proofs.YtadfkiebblmfkaaGreatDoor

/- The reference's Same: whether two items are the same. -/
namespace Go.Proofs.YtadfkiebblmfkaaGreatDoor
open Go Go.RowKit
attribute [local go_sem] Oper.semAt_some Grows wide_fn

end Go.Proofs.YtadfkiebblmfkaaGreatDoor

/- The reference's right: may an item be, of so much depth. -/
namespace Go.Proofs.YtadfkiebblmfkaaGreatDoor
open Go Go.RowKit
attribute [local go_sem] Oper.semAt_some Grows wide_fn

noncomputable def rightB (d : Nat) (t : It) : Bool := @decide (RightI d t) (Classical.propDecidable _)
theorem rightB_iff (d : Nat) (t : It) : rightB d t = true ↔ RightI d t := by unfold rightB; exact @decide_eq_true_iff _ (Classical.propDecidable _)
theorem rightB_false {d : Nat} {t : It} (h : ¬ RightI d t) : rightB d t = false := by
  rcases hb : rightB d t with _ | _
  · rfl
  · exact absurd ((rightB_iff d t).1 hb) h
theorem bytes_ne {b c : ByteArray} (h : ¬ b = c) : (b.toList == c.toList) = false := by
  rcases hx : (b.toList == c.toList) with _ | _
  · rfl
  · have e := eq_of_beq hx
    rw [ByteArray.toList_eq, ByteArray.toList_eq] at e
    exact absurd (ByteArray.ext (Array.toList_inj.1 e)) h

def RightAt (d : Nat) (t : It) : Prop := ∀ (v : Value) (W : World), ItemAt W t v →
  Calls Tryz.prog 111 #[v, .int .i64 (d : Int)] W fun e W' => e = .returned (.bool (rightB d t)) ∧ Below W.heap.size W W'

set_option maxRecDepth 100000 in
set_option maxHeartbeats 4000000 in
theorem right_step (d : Nat) (hd : d ≤ 1000) (t : It) (IH : ∀ k ∈ t.kids, ∀ d', d = d' + 1 → RightAt d' k) : RightAt d t := by
  intro v w ht
  obtain ⟨a, cap, rfl, hn, hs, hk⟩ := ht.open
  clear ht
  have HU : RightI d t ↔ (∃ d', d = d' + 1 ∧ (t.list = true → t.bytes = ⟨#[]⟩) ∧ (t.list = false → t.kids.length = 0) ∧ ∀ k ∈ t.kids, RightI d' k) := by
    cases d with
    | zero => exact ⟨fun h => h.elim, fun ⟨d', h, _⟩ => absurd h (by omega)⟩
    | succ d =>
      constructor
      · intro h; exact ⟨d, rfl, h⟩
      · rintro ⟨d', h, h'⟩
        obtain rfl : d = d' := by omega
        exact h'
  have HU := Lib.hid HU
  have HI := Lib.hid IH
  have HK := Lib.hid hk
  clear IH hk
  generalize t.list = l at *
  generalize t.bytes = b at *
  generalize t.kids = ks at *
  obtain ⟨n, en⟩ : ∃ n, ks.length = n := ⟨_, rfl⟩
  rw [en] at hn HU ⊢
  have en := Lib.hid en
  have hmx : Tryz.prog.follows .mixedOrders = true := by kernel_rfl
  go_enter Tryz.func111, Tryz.ntmps111
  have LX := Has.new w 82 #[.bool l, .string b, .slice a n cap]
  have k1 := LX.cell 0 _ rfl
  have k2 := LX.cell 1 _ rfl
  have k3 := LX.cell 2 _ rfl
  have Q := (Below.refl w.heap.size w).alloc (Nat.le_refl _) (.cells #[.bool l, .string b, .slice a n cap] 82)
  have HF : ∀ X : World, Below w.heap.size w X → rightB d t = false → (Ending.returned (.bool false) = .returned (.bool (rightB d t)) ∧ Below w.heap.size w X) := fun X hX e => ⟨by rw [e], hX⟩
  by_cases hd0 : d = 0
  · subst hd0
    have hS := Lib.hid (rightB_false (d := 0) (t := t) (fun h => h))
    simp only [Int.cast_ofNat_Int]
    go_wp2_with fail
    go_ret
    exact HF _ Q hS.out
  have hd1 : ¬ (d : Int) < 1 := by omega
  have hd2 : (d : Int) ≤ 1000 := by omega
  cases l with
  | true =>
    by_cases hb : b = ⟨#[]⟩
    · subst hb
      obtain ⟨W1, hW1⟩ : ∃ W1, w.alloc (.cells #[.bool true, .string ⟨#[]⟩, .slice a n cap] 82) = W1 := ⟨_, rfl⟩
      rw [hW1] at LX k1 k2 k3 Q
      go_wp2_with fail
      clear hW1 k1 k2 k3
      go_loopw [5] (fun i wr => ∃ k : Nat, k ≤ n ∧ i = .int .i64 (k : Int) ∧ (∀ j x, j < k → ks[j]? = some x → RightI (d - 1) x) ∧ Has wr w.heap.size 82 #[.bool true, .string ⟨#[]⟩, .slice a n cap] ∧ Below w.heap.size w wr) (fun i _ => n - (intOf i).toNat)
      case atStart => exact ⟨0, by omega, rfl, (fun j x hj => absurd hj (by omega)), LX, Q⟩
      case round =>
        clear LX Q
        obtain ⟨k, hkn, rfl, hE, LX, Q⟩ := hrel
        have hE := Lib.hid hE
        by_cases hk5 : k < n
        · have hkI : (k : Int) < (n : Int) := by omega
          have hk0 : (0 : Int) ≤ (k : Int) := by omega
          obtain ⟨g, o, rfl, hK⟩ := HK.out.resolve_left (fun h => by have h2 := en.out; rw [h] at h2; simp at h2; omega)
          obtain ⟨kx, hkx⟩ : ∃ kx, ks[k]? = some kx := ⟨_, List.getElem?_eq_getElem (by have := en.out; omega)⟩
          have hm : kx ∈ ks := List.mem_of_getElem? hkx
          obtain ⟨v0, v1, v2, c0, c1, c2, hi⟩ := hK.get k _ hkx
          have e1 := Lib.hid hkx
          clear hkx
          have m1 := LX.cell 2 _ rfl
          have y0 : wr.cell? ⟨g, o + k * 3, none⟩ = some v0 := (Q.cell (p := ⟨g, _, none⟩) (ltCell c0)).trans c0
          have y1 : wr.cell? ⟨g, o + k * 3 + 1, none⟩ = some v1 := (Q.cell (p := ⟨g, _, none⟩) (ltCell c0)).trans c1
          have y2 : wr.cell? ⟨g, o + k * 3 + 2, none⟩ = some v2 := (Q.cell (p := ⟨g, _, none⟩) (ltCell c0)).trans c2
          have HC := HI.out kx hm (d - 1) (by omega) _ _ (hi.later Q)
          rw [show ((d - 1 : Nat) : Int) = (d : Int) - 1 by omega] at HC
          have HC := Lib.hid HC
          have LX := Lib.hid LX
          have Q := Lib.hid Q
          clear c0 c1 c2 hi hK HK
          go_wp2_with fail
          refine HC.out.mono ?_
          rintro _ W2 ⟨rfl, q⟩
          have LX := Lib.hid (LX.out.later q)
          have Q := Lib.hid (Q.out.trans (q.mono Q.out.size))
          clear y0 y1 y2 HC m1 q
          by_cases hs : rightB (d - 1) kx = true
          · have hxy := Lib.hid ((rightB_iff _ _).1 hs)
            rw [hs]
            clear hs
            go_wp2_with fail
            go_roundw
            case rel =>
              refine ⟨k + 1, by omega, by simp, fun j x hj hx => ?_, LX.out, Q.out⟩
              by_cases hjk : j = k
              · subst hjk
                rw [e1.out] at hx
                injection hx with hx
                rw [← hx]
                exact hxy.out
              · exact hE.out j x (by omega) hx
            case measure => simp [intOf]; omega
          · have hS := Lib.hid (rightB_false (d := d) (t := t) (fun h => by
              obtain ⟨d', hd', _, _, h⟩ := HU.out.1 h
              exact hs ((rightB_iff _ _).2 (by rw [show d - 1 = d' by omega]; exact h kx hm))))
            have hs' : rightB (d - 1) kx = false := by simpa using hs
            rw [hs']
            clear hs hs'
            go_wp2_with fail
            go_ret
            exact HF _ Q.out hS.out
        · obtain rfl : k = n := by omega
          have hS : rightB d t = true := (rightB_iff d t).2 (HU.out.2 ⟨d - 1, by omega, (by simp), (by simp), (fun x hx => by
            obtain ⟨j, hj⟩ := List.getElem?_of_mem hx
            obtain ⟨hjl, _⟩ := List.getElem?_eq_some_iff.1 hj
            exact hE.out j x (by have := en.out; omega) hj)⟩)
          have hS := Lib.hid hS
          have Q := Lib.hid Q
          have m1 := LX.cell 2 _ rfl
          go_wp2_with fail
          go_ret
          exact ⟨by rw [hS.out]; rfl, Q.out⟩
    · have hS := Lib.hid (rightB_false (d := d) (t := t) (fun h => by
        obtain ⟨d', _, h1, _, _⟩ := HU.out.1 h
        exact hb (h1 rfl)))
      have hbl := bytes_ne hb
      have hbe : (b.toList == []) = false := by
        have e : (ByteArray.mk #[]).toList = [] := by rw [ByteArray.toList_eq]
        rw [e] at hbl
        exact hbl
      have hb := Lib.hid hb
      go_wp2_with fail
      go_ret
      exact HF _ Q hS.out
  | false =>
    by_cases hn0 : n = 0
    · subst hn0
      obtain ⟨W1, hW1⟩ : ∃ W1, w.alloc (.cells #[.bool false, .string b, .slice a 0 cap] 82) = W1 := ⟨_, rfl⟩
      rw [hW1] at LX k1 k2 k3 Q
      go_wp2_with fail
      clear hW1 k1 k2 k3
      go_loopw [5] (fun i wr => ∃ k : Nat, k ≤ 0 ∧ i = .int .i64 (k : Int) ∧ (∀ j x, j < k → ks[j]? = some x → RightI (d - 1) x) ∧ Has wr w.heap.size 82 #[.bool false, .string b, .slice a 0 cap] ∧ Below w.heap.size w wr) (fun i _ => 0 - (intOf i).toNat)
      case atStart => exact ⟨0, by omega, rfl, (fun j x hj => absurd hj (by omega)), LX, Q⟩
      case round =>
        clear LX Q
        obtain ⟨k, hkn, rfl, hE, LX, Q⟩ := hrel
        have hE := Lib.hid hE
        · obtain rfl : k = 0 := by omega
          have hS : rightB d t = true := (rightB_iff d t).2 (HU.out.2 ⟨d - 1, by omega, (by simp), (by simp), (fun x hx => by
            obtain ⟨j, hj⟩ := List.getElem?_of_mem hx
            obtain ⟨hjl, _⟩ := List.getElem?_eq_some_iff.1 hj
            exact hE.out j x (by have := en.out; omega) hj)⟩)
          have hS := Lib.hid hS
          have Q := Lib.hid Q
          have m1 := LX.cell 2 _ rfl
          go_wp2_with fail
          go_ret
          exact ⟨by rw [hS.out]; rfl, Q.out⟩
    · have hS := Lib.hid (rightB_false (d := d) (t := t) (fun h => by
        obtain ⟨d', _, _, h2, _⟩ := HU.out.1 h
        exact hn0 (h2 rfl)))
      have hnI : (0 : Int) < (n : Int) := by omega
      have hn0 := Lib.hid hn0
      go_wp2_with fail
      go_ret
      exact HF _ Q hS.out

theorem refRightAt : ∀ (d : Nat), d ≤ 1000 → ∀ t : It, RightAt d t := by
  intro d
  induction d with
  | zero => intro h t; exact right_step 0 h t (fun k hk d' h => absurd h (by omega))
  | succ d ih => intro h t; exact right_step (d + 1) h t (fun k _ d' e => by
      obtain rfl : d = d' := by omega
      exact ih (by omega) k)
end Go.Proofs.YtadfkiebblmfkaaGreatDoor
