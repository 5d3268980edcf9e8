/- Keys, one behind the other; stray, long, rises. Conditions: the keys lie in memory. -/
import Derived.Test.YtbkgipggblphlaaAcM
import Derived.Test.YtbkgipggblphlaaRawA
namespace Go.Proofs.Ytbkgipggblphlaa
open Go Go.RowKit
attribute [local go_sem] Oper.semAt_some Grows wide_fn

theorem Ext.atK {W : World} {z : Ext W} {P : Program} {f : FuncId} {args : Array Value} {v : Value} (h : Calls P f args z.w fun e w' => e = .returned v ∧ Below z.w.heap.size z.w w') : Calls P f args z.w fun e w' => e = .returned v ∧ ∃ x : Ext W, w' = x.w :=
  h.mono fun _ w' ⟨h1, h2⟩ => ⟨h1, ⟨w', z.below.trans (h2.mono z.below.size)⟩, rfl⟩
/-- A key at a place. -/
def KyIn (W : World) (p : Addr) (x : Ky) : Prop := ∀ (j : Nat) (u : Value), (kyL x)[j]? = some u → W.cell? (p.add j) = some u
theorem KyIn.later {W X : World} {p : Addr} {x : Ky} (h : KyIn W p x) (hb : Below W.heap.size W X) : KyIn X p x := fun j u hj => cell_below hb _ _ (h j u hj)
theorem KyIn.load {W : World} {p : Addr} {x : Ky} (h : KyIn W p x) : (loadVar 31 p).run Try.prog W = .ok (.agg (kyC x)) W :=
  run_loadVar_at W p _ (kyL x) _ h Try.underlying31 rfl (by rw [kyL_len]; exact infoKy)
/-- Keys, one behind the other. -/
def KeysAt (W : World) (v : Value) (l : List Ky) : Prop :=
  ∃ a cap, v = .slice a l.length cap ∧ l.length ≤ cap ∧ cap ≤ 9223372036854775807 ∧ (∀ x ∈ l, KyOk x) ∧ ∀ (i : Nat) (x : Ky), l[i]? = some x → ∃ b, a = some b ∧ KyIn W (b.add (i * 25)) x
theorem KeysAt.keep {W X : World} {v : Value} {l : List Ky} (h : KeysAt W v l) (hk : ∀ (a : Addr) (u : Value), W.cell? a = some u → X.cell? a = some u) : KeysAt X v l := by
  obtain ⟨a, cap, h1, h2, h3, h4, h5⟩ := h
  refine ⟨a, cap, h1, h2, h3, h4, fun i x hx => ?_⟩
  obtain ⟨b, e, hc⟩ := h5 i x hx
  exact ⟨b, e, fun j u hj => hk _ _ (hc j u hj)⟩
theorem KeysAt.later {W X : World} {v : Value} {l : List Ky} (h : KeysAt W v l) (hb : Below W.heap.size W X) : KeysAt X v l := h.keep (cell_below hb)
theorem KeysAt.nil (W : World) : KeysAt W (.slice none 0 0) [] := ⟨none, 0, rfl, by simp, by omega, (fun x hx => by cases hx), fun i x hx => by simp at hx⟩
theorem KeysAt.shape {W : World} {v : Value} {l : List Ky} (h : KeysAt W v l) : ∃ a cap, v = .slice a l.length cap ∧ l.length ≤ cap ∧ cap ≤ 9223372036854775807 := by
  obtain ⟨a, cap, h1, h2, h3, _⟩ := h
  exact ⟨a, cap, h1, h2, h3⟩
theorem KeysAt.all {W : World} {v : Value} {l : List Ky} (h : KeysAt W v l) : ∀ x ∈ l, KyOk x := by
  obtain ⟨a, cap, h1, h2, h3, h4, _⟩ := h
  exact h4
theorem KeysAt.ok {W : World} {v : Value} {l : List Ky} (h : KeysAt W v l) {i : Nat} {x : Ky} (hx : l[i]? = some x) : KyOk x := h.all x (List.mem_of_getElem? hx)
theorem KeysAt.at {W : World} {a : Option Addr} {n cap : Nat} {l : List Ky} (h : KeysAt W (.slice a n cap) l) {i : Nat} {x : Ky} (hx : l[i]? = some x) : ∃ b, a = some b ∧ KyIn W (b.add (i * 25)) x := by
  obtain ⟨a', cap', h1, h2, h3, h4, h5⟩ := h
  injection h1 with e1 e2 e3
  subst e1
  exact h5 i x hx
theorem KeysAt.in {W : World} {b : Addr} {n cap : Nat} {l : List Ky} (h : KeysAt W (.slice (some b) n cap) l) {i : Nat} {x : Ky} (hx : l[i]? = some x) : KyIn W (b.add (i * 25)) x := by
  obtain ⟨b', e, h⟩ := h.at hx
  injection e with e
  subst e
  exact h

/-! ### The order of keys -/
theorem kcmp_zero {a b : Ky} : kcmp a b = 0 ↔ a = b := by
  unfold kcmp
  by_cases h : acmp a.at_ b.at_ = 0
  · rw [if_pos h]
    have h1 := (acmp_zero _ _).1 h
    by_cases hs : a.slot = b.slot
    · rw [if_pos hs]
      obtain ⟨a1, a2, a3⟩ := a
      obtain ⟨b1, b2, b3⟩ := b
      simp only at h1 hs ⊢
      subst h1 hs
      unfold wcmp
      constructor
      · intro h
        split at h
        · omega
        · split at h
          · omega
          · rw [show a3 = b3 by omega]
      · intro h
        injection h with _ _ h
        rw [if_neg (by omega), if_neg (by omega)]
    · rw [if_neg hs]
      constructor
      · intro h; split at h <;> omega
      · intro h; subst h; exact absurd rfl hs
  · rw [if_neg h]
    exact ⟨fun h' => absurd h' h, fun h' => by subst h'; exact absurd ((acmp_zero _ _).2 rfl) h⟩
/-- One key is ahead of another. -/
def Kl (a b : Ky) : Prop := kcmp a b < 0
theorem acmp_lt {a b : Nat} : acmp a b < 0 ↔ a < b := by
  unfold acmp
  split
  · exact ⟨fun _ => by omega, fun _ => by decide⟩
  · split <;> exact ⟨fun h => by omega, fun h => by omega⟩
theorem wcmp_lt {a b : Nat} : wcmp a b < 0 ↔ a < b := by
  unfold wcmp
  repeat' split
  all_goals exact ⟨fun h => by omega, fun h => by omega⟩
theorem kl_iff {a b : Ky} : Kl a b ↔ a.at_ < b.at_ ∨ (a.at_ = b.at_ ∧ ((a.slot = false ∧ b.slot = true) ∨ (a.slot = b.slot ∧ a.key < b.key))) := by
  unfold Kl kcmp
  by_cases h : acmp a.at_ b.at_ = 0
  · rw [if_pos h]
    have h1 := (acmp_zero _ _).1 h
    by_cases hs : a.slot = b.slot
    · rw [if_pos hs, wcmp_lt]
      constructor
      · intro h; exact .inr ⟨h1, .inr ⟨hs, h⟩⟩
      · rintro (h | ⟨_, ⟨h, h'⟩ | ⟨_, h⟩⟩)
        · omega
        · rw [h, h'] at hs; cases hs
        · exact h
    · rw [if_neg hs]
      constructor
      · intro h
        refine .inr ⟨h1, .inl ?_⟩
        cases ha : a.slot <;> cases hb : b.slot <;> simp_all
      · rintro (h | ⟨_, ⟨h, h'⟩ | ⟨h, _⟩⟩)
        · omega
        · rw [h]; decide
        · exact absurd h hs
  · rw [if_neg h, acmp_lt]
    have h1 : ¬ a.at_ = b.at_ := fun e => h ((acmp_zero _ _).2 e)
    exact ⟨fun h => .inl h, fun h => by rcases h with h | h; exact h; exact absurd h.1 h1⟩
theorem Kl.trans {a b c : Ky} (h : Kl a b) (k : Kl b c) : Kl a c := by
  rw [kl_iff] at *
  rcases h with h | ⟨h, h' | h'⟩ <;> rcases k with k | ⟨k, k' | k'⟩
  · exact .inl (by omega)
  · exact .inl (by omega)
  · exact .inl (by omega)
  · exact .inl (by omega)
  · rw [h'.2] at k'; cases k'.1
  · exact .inr ⟨by omega, .inl ⟨h'.1, by rw [← k'.1]; exact h'.2⟩⟩
  · exact .inl (by omega)
  · exact .inr ⟨by omega, .inl ⟨by rw [h'.1]; exact k'.1, k'.2⟩⟩
  · exact .inr ⟨by omega, .inr ⟨h'.1.trans k'.1, by omega⟩⟩
theorem Kl.irrefl (a : Ky) : ¬ Kl a a := fun h => by unfold Kl at h; rw [kcmp_zero.2 rfl] at h; omega
theorem kcmp_tri (a b : Ky) : (Kl a b ∧ kcmp a b = -1) ∨ (a = b ∧ kcmp a b = 0) ∨ (Kl b a ∧ kcmp a b = 1) := by
  have key : kcmp a b = -1 ∨ kcmp a b = 0 ∨ kcmp a b = 1 := by
    unfold kcmp acmp wcmp
    repeat' split
    all_goals omega
  rcases key with h | h | h
  · exact .inl ⟨by unfold Kl; omega, h⟩
  · exact .inr (.inl ⟨kcmp_zero.1 h, h⟩)
  · refine .inr (.inr ⟨?_, h⟩)
    have hn : ¬ Kl a b := fun k => by unfold Kl at k; omega
    have he : ¬ a = b := fun e => by rw [kcmp_zero.2 e] at h; omega
    rw [kl_iff] at hn ⊢
    rcases Nat.lt_trichotomy a.at_ b.at_ with h1 | h1 | h1
    · exact absurd (.inl h1) hn
    · refine .inr ⟨h1.symm, ?_⟩
      cases ha : a.slot <;> cases hb : b.slot
      · rcases Nat.lt_trichotomy a.key b.key with h2 | h2 | h2
        · exact absurd (.inr ⟨h1, .inr ⟨by rw [ha, hb], h2⟩⟩) hn
        · exact absurd (by obtain ⟨a1, a2, a3⟩ := a; obtain ⟨b1, b2, b3⟩ := b; simp only at h1 ha hb h2; subst h1 h2 ha hb; rfl) he
        · exact .inr ⟨rfl, h2⟩
      · exact absurd (.inr ⟨h1, .inl ⟨ha, hb⟩⟩) hn
      · exact .inl ⟨rfl, rfl⟩
      · rcases Nat.lt_trichotomy a.key b.key with h2 | h2 | h2
        · exact absurd (.inr ⟨h1, .inr ⟨by rw [ha, hb], h2⟩⟩) hn
        · exact absurd (by obtain ⟨a1, a2, a3⟩ := a; obtain ⟨b1, b2, b3⟩ := b; simp only at h1 ha hb h2; subst h1 h2 ha hb; rfl) he
        · exact .inr ⟨rfl, h2⟩
    · exact .inl h1
/-- Do keys rise? -/
def Kup (l : List Ky) : Prop := l.Pairwise Kl
noncomputable def kupB (l : List Ky) : Bool := @decide (Kup l) (Classical.propDecidable _)
theorem kupB_iff (l : List Ky) : kupB l = true ↔ Kup l := by unfold kupB; exact @decide_eq_true_iff _ (Classical.propDecidable _)
theorem kupB_false {l : List Ky} (h : ¬ Kup l) : kupB l = false := by
  rcases hb : kupB l with _ | _
  · rfl
  · exact absurd ((kupB_iff l).1 hb) h
theorem kup_at {l : List Ky} : Kup l ↔ ∀ (j : Nat) (x y : Ky), l[j]? = some x → l[j + 1]? = some y → Kl x y := by
  constructor
  · intro h j x y hx hy
    have := List.pairwise_iff_getElem.1 h j (j + 1) (List.getElem?_eq_some_iff.1 hx).1 (List.getElem?_eq_some_iff.1 hy).1 (by omega)
    rw [(List.getElem?_eq_some_iff.1 hx).2, (List.getElem?_eq_some_iff.1 hy).2] at this
    exact this
  · intro h
    have key : ∀ (d i : Nat) (x y : Ky), l[i]? = some x → l[i + d + 1]? = some y → Kl x y := by
      intro d
      induction d with
      | zero => intro i x y hx hy; exact h i x y hx hy
      | succ d ih =>
        intro i x y hx hy
        obtain ⟨z, hz⟩ : ∃ z, l[i + d + 1]? = some z := ⟨_, List.getElem?_eq_getElem (by have := (List.getElem?_eq_some_iff.1 hy).1; omega)⟩
        exact (ih i x z hx hz).trans (h (i + d + 1) z y hz (by rw [← hy]; congr 1))
    refine List.pairwise_iff_getElem.2 (fun i j hi hj hij => ?_)
    have := key (j - i - 1) i l[i] l[j] (List.getElem?_eq_getElem hi) (by rw [show i + (j - i - 1) + 1 = j by omega]; exact List.getElem?_eq_getElem hj)
    exact this

/-! ### stray, long -/
def strayB (k : Ky) : Bool := !k.slot && decide (k.key ≠ 0)
attribute [local go_sem] eq4
set_option maxRecDepth 100000 in
set_option maxHeartbeats 4000000 in
theorem stray_any (W : World) (a : Ky) (ha : KyOk a) :
    Calls Try.prog 28 #[.agg (kyC a)] W fun e w' => e = .returned (.bool (strayB a)) ∧ Below W.heap.size W w' := by
  have K1 := Has.new W 31 (kyC a)
  have q0 := (Below.refl W.heap.size W).alloc (Nat.le_refl _) (.cells (kyC a) 31)
  obtain ⟨V, hV⟩ : ∃ V, W.alloc (.cells (kyC a) 31) = V := ⟨_, rfl⟩
  rw [hV] at K1 q0
  obtain ⟨a0, a1, a2, a3, a4⟩ := K1.ky
  have Q := Lib.hid q0
  have hz : (lim a.key 0 == 0 && lim a.key 1 == 0 && lim a.key 2 == 0 && lim a.key 3 == 0) = decide (a.key = 0) := eqv_k a.key 0 ha.key (by unfold W256; omega)
  obtain ⟨kv, hkv⟩ : ∃ kv, strayB a = kv := ⟨_, rfl⟩
  rw [hkv]
  unfold strayB at hkv
  generalize kyC a = cs at *
  obtain ⟨_, sa, ka⟩ := a
  simp only at a0 a1 a2 a3 a4 hkv hz ⊢
  have HK := Lib.hid hkv
  have HZ := Lib.hid hz
  clear hkv q0 K1 ha hz
  cases sa
  · go_enter Try.func28, Try.ntmps28
    go_wp2_with fail
    go_ret
    refine ⟨?_, Q.out⟩
    rw [← HK.out]
    rw [show decide (ka ≠ 0) = !decide (ka = 0) by simp, ← HZ.out]
    first | rfl | simp
  · go_enter Try.func28, Try.ntmps28
    go_wp2_with fail
    go_ret
    exact ⟨by rw [← HK.out]; rfl, Q.out⟩
set_option maxHeartbeats 1000000 in
theorem long_any (W : World) (sv : Value) (l : List Ky) (hs : KeysAt W sv l) :
    Calls Try.prog 30 #[sv] W fun e w' => e = .returned (.bool (decide (200 < l.length))) ∧ Below W.heap.size W w' := by
  obtain ⟨a, cap, rfl, hnc, hcm⟩ := hs.shape
  clear hs
  generalize l.length = n at *
  have hd : decide ((200 : Int) < (n : Int)) = decide (200 < n) := by rw [decide_eq_decide]; omega
  rw [← hd]
  clear hd hnc hcm
  go_enter Try.func30, Try.ntmps30
  go_wp2_with fail
  go_ret
  exact ⟨rfl, Below.refl _ _⟩
end Go.Proofs.Ytbkgipggblphlaa
