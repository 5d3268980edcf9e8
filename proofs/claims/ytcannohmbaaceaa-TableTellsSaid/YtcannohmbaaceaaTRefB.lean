/- The document's answer for tables: put. Conditions: the slots lie in memory, and may be kept. -/
import Derived.Test.YtcannohmbaaceaaTRefA
import Derived.Test.YtcannohmbaaceaaTabY
namespace Go.Proofs.Ytcannohmbaaceaa
open Go Go.RowKit
attribute [local go_sem] Oper.semAt_some Grows wide_fn eq4

theorem lk_append (a b : List Sl) (q : Nat) : lk (a ++ b) q = match lk a q with | some v => some v | none => lk b q := by
  induction a with
  | nil => rfl
  | cons x r ih =>
    rw [List.cons_append, lk, lk]
    by_cases h : x.1 = q
    · rw [if_pos h, if_pos h]
    · rw [if_neg h, if_neg h, ih]
theorem lk_one (y : Sl) (q : Nat) : lk [y] q = if y.1 = q then some y.2 else none := rfl
theorem wcmp_gt (a b : Nat) : 0 < wcmp a b ↔ b < a := by
  unfold wcmp
  split
  · exact ⟨fun h => absurd h (by decide), fun h => by omega⟩
  · split
    · exact ⟨fun _ => ‹_›, fun _ => by decide⟩
    · exact ⟨fun h => absurd h (by decide), fun h => absurd h ‹_›⟩
def nz (v : Nat) : Option Nat := if v = 0 then none else some v
theorem lk_putL {l : List Sl} (hl : Kept l) (k v q : Nat) : lk (mergeL l [(k, v)]) q = if q = k then nz v else lk l q := by
  have h1 := look_lk (putL_kept hl.1 (k, v)) q
  rw [look_putL hl] at h1
  have h2 : putL l (k, v) = mergeL l [(k, v)] := rfl
  rw [h2] at h1
  rw [h1]
  show (if (if k = q then v else look l q) = 0 then none else some (if k = q then v else look l q)) = _
  by_cases h : k = q
  · simp only [if_pos h, if_pos h.symm]
    rfl
  · simp only [if_neg h, if_neg (show ¬ q = k from fun e => h e.symm)]
    exact (look_lk hl q).symm
/-- What put's loop has made of the first m. -/
structure PutI (k v : Nat) (l : List Sl) (m : Nat) (now : List Sl) (dn : Bool) : Prop where
  rise : Rise now
  len : now.length ≤ m + 1
  ahead : ∀ y ∈ now, ∀ (j : Nat) (z : Sl), m ≤ j → l[j]? = some z → y.1 < z.1
  notyet : dn = false → now.length ≤ m ∧ v ≠ 0 ∧ ∀ y ∈ now, y.1 < k
  yet : dn = true → v ≠ 0 → ∀ (j : Nat) (z : Sl), m ≤ j → l[j]? = some z → k < z.1
  look : ∀ q, lk now q = if q = k then (if dn = true then nz v else none) else lk (l.take m) q
variable {k v : Nat} {l now : List Sl} {m : Nat} {dn : Bool} {y : Sl}
theorem PutI.start (k v : Nat) (l : List Sl) : PutI k v l 0 [] (decide (v = 0)) :=
  ⟨by unfold Rise; simp, by simp, by simp, fun h => ⟨by simp, of_decide_eq_false h, by simp⟩, fun h h0 => absurd (of_decide_eq_true h) h0, fun q => by
    rw [List.take_zero]
    show none = _
    by_cases h : q = k
    · rw [if_pos h]
      by_cases hv : v = 0
      · rw [decide_eq_true hv, if_pos rfl]; unfold nz; rw [if_pos hv]
      · rw [decide_eq_false hv]; rfl
    · rw [if_neg h]; rfl⟩
theorem lk_take_snoc (hl : Rise l) (hy : l[m]? = some y) (q : Nat) : lk (l.take (m + 1)) q = if q = y.1 then some y.2 else lk (l.take m) q := by
  rw [take_snoc hy, lk_append, lk_one]
  by_cases h : q = y.1
  · rw [if_pos h]
    have : lk (l.take m) q = none := lk_none (fun x hx e => by
      obtain ⟨j, hj⟩ := List.getElem?_of_mem hx
      rw [List.getElem?_take] at hj
      split at hj
      · have := rise_lt_at hl hj hy ‹_›
        omega
      · cases hj)
    rw [this]
    show (if y.1 = q then some y.2 else none) = _
    rw [if_pos h.symm]
  · rw [if_neg h, if_neg (fun e => h e.symm)]
    cases lk (l.take m) q <;> rfl
theorem PutI.skip (h : PutI k v l m now dn) (hl : Rise l) (hy : l[m]? = some y) (hk : y.1 = k) : PutI k v l (m + 1) now dn :=
  ⟨h.rise, by have := h.len; omega, fun a ha j z hj hz => h.ahead a ha j z (by omega) hz, fun e => ⟨by have := (h.notyet e).1; omega, (h.notyet e).2⟩, fun e e0 j z hj hz => h.yet e e0 j z (by omega) hz, fun q => by
    rw [h.look, lk_take_snoc hl hy]
    by_cases hq : q = k
    · rw [if_pos hq, if_pos hq]
    · rw [if_neg hq, if_neg hq, if_neg (by rw [hk]; exact hq)]⟩
theorem PutI.stay (h : PutI k v l m now dn) (hl : Rise l) (hy : l[m]? = some y) (hk : y.1 ≠ k) (hd : dn = false → y.1 < k) : PutI k v l (m + 1) (now ++ [y]) dn :=
  ⟨h.rise.snoc (fun a ha => h.ahead a ha m y (Nat.le_refl _) hy), by have := h.len; simp; omega, fun a ha j z hj hz => by
    rcases List.mem_append.1 ha with ha | ha
    · exact h.ahead a ha j z (by omega) hz
    · simp at ha; subst ha
      exact rise_lt_at hl hy hz (by omega), fun e => ⟨by have := (h.notyet e).1; simp; omega, (h.notyet e).2.1, fun a ha => by
    rcases List.mem_append.1 ha with ha | ha
    · exact (h.notyet e).2.2 a ha
    · simp at ha; subst ha; exact hd e⟩, fun e e0 j z hj hz => h.yet e e0 j z (by omega) hz, fun q => by
    rw [lk_append, h.look, lk_take_snoc hl hy, lk_one]
    by_cases hq : q = k
    · rw [if_pos hq, if_pos hq, if_neg (show ¬ y.1 = q by rw [hq]; exact hk)]
      cases (if dn = true then nz v else none : Option Nat) <;> rfl
    · rw [if_neg hq, if_neg hq]
      by_cases hy1 : q = y.1
      · rw [if_pos hy1, if_pos hy1.symm]
        have : lk (l.take m) q = none := lk_none (fun x hx e => by
          obtain ⟨j, hj⟩ := List.getElem?_of_mem hx
          rw [List.getElem?_take] at hj
          split at hj
          · have := rise_lt_at hl hj hy ‹_›
            omega
          · cases hj)
        rw [this]
      · rw [if_neg hy1, if_neg (fun e => hy1 e.symm)]
        cases lk (l.take m) q <;> rfl⟩
theorem PutI.put (h : PutI k v l m now false) (hl : Rise l) (hb : ∀ (j : Nat) (z : Sl), m ≤ j → l[j]? = some z → k < z.1) : PutI k v l m (now ++ [(k, v)]) true :=
  ⟨h.rise.snoc (h.notyet rfl).2.2, by have := (h.notyet rfl).1; simp; omega, fun a ha j z hj hz => by
    rcases List.mem_append.1 ha with ha | ha
    · exact h.ahead a ha j z hj hz
    · simp at ha; subst ha; exact hb j z hj hz, fun e => by (cases e), fun _ _ => hb, fun q => by
    rw [lk_append, h.look, lk_one]
    by_cases hq : q = k
    · rw [if_pos hq, if_pos hq]
      show (match (none : Option Nat) with | some v => some v | none => if k = q then some v else none) = nz v
      rw [if_pos hq.symm]
      unfold nz
      rw [if_neg (h.notyet rfl).2.1]
    · rw [if_neg hq, if_neg hq]
      show (match lk (l.take m) q with | some v => some v | none => if k = q then some v else none) = _
      rw [if_neg (fun e => hq e.symm)]
      cases lk (l.take m) q <;> rfl⟩
theorem PutI.done (h : PutI k v l l.length now true) (hl : Kept l) : now = mergeL l [(k, v)] :=
  lk_ext h.rise (mergeL_kept hl.1 (by unfold Rise; simp)).1 (fun q => by
    rw [h.look, lk_putL hl, List.take_length]
    rfl)
theorem beyond (hl : Rise l) (hy : l[m]? = some y) (hk : k < y.1) : ∀ (j : Nat) (z : Sl), m ≤ j → l[j]? = some z → k < z.1 := fun j z hj hz => by
  rcases Nat.lt_or_eq_of_le hj with hj | rfl
  · exact Nat.lt_trans hk (rise_lt_at hl hy hz hj)
  · rw [hy] at hz; injection hz with hz; subst hz; exact hk
set_option maxRecDepth 100000 in
set_option maxHeartbeats 8000000 in
theorem refPutOne_any (W : World) (sv : Value) (l : List Sl) (hs : SlotsAt W sv l) (hl : Kept l) (hlen : l.length ≤ 2000) (k v : Nat) (hk : W256 k) (hv : W256 v) :
    Calls Try.prog 30 #[sv, wv k, wv v] W fun e w' => ∃ rv, e = .returned rv ∧ RowT w' W.heap.size rv (mergeL l [(k, v)]) ∧ Below W.heap.size W w' := by
  have hmx : Try.prog.follows .mixedOrders = true := by kernel_rfl
  obtain ⟨a, cap, rfl, hnc, hcm⟩ := hs.shape
  have HS := Lib.hid hs
  obtain ⟨n, hn⟩ : ∃ n, l.length = n := ⟨_, rfl⟩
  rw [hn] at HS hnc hlen ⊢
  have HN := Lib.hid hn
  have HL := Lib.hid (And.intro hl hlen)
  have HKV := Lib.hid (And.intro hk hv)
  clear hs hnc hcm hn hl hlen hk hv
  unfold wv
  have K0 := (Has.new W 26 #[.int .u64 (lim k 0), .int .u64 (lim k 1), .int .u64 (lim k 2), .int .u64 (lim k 3)]).alloc (.cells #[.int .u64 (lim v 0), .int .u64 (lim v 1), .int .u64 (lim v 2), .int .u64 (lim v 3)] 26)
  have Z0 := Has.new (W.alloc (.cells #[.int .u64 (lim k 0), .int .u64 (lim k 1), .int .u64 (lim k 2), .int .u64 (lim k 3)] 26)) 26 #[.int .u64 (lim v 0), .int .u64 (lim v 1), .int .u64 (lim v 2), .int .u64 (lim v 3)]
  simp only [World.size_alloc] at Z0
  have q0 := ((Below.refl W.heap.size W).alloc (Nat.le_refl _) (.cells #[.int .u64 (lim k 0), .int .u64 (lim k 1), .int .u64 (lim k 2), .int .u64 (lim k 3)] 26)).alloc (by simp) (.cells #[.int .u64 (lim v 0), .int .u64 (lim v 1), .int .u64 (lim v 2), .int .u64 (lim v 3)] 26)
  obtain ⟨V, hV⟩ : ∃ V, (W.alloc (.cells #[.int .u64 (lim k 0), .int .u64 (lim k 1), .int .u64 (lim k 2), .int .u64 (lim k 3)] 26)).alloc (.cells #[.int .u64 (lim v 0), .int .u64 (lim v 1), .int .u64 (lim v 2), .int .u64 (lim v 3)] 26) = V := ⟨_, rfl⟩
  rw [hV] at K0 Z0 q0
  have z0 := Z0.cell 0 _ rfl
  have z1 := Z0.cell 1 _ rfl
  have z2 := Z0.cell 2 _ rfl
  have z3 := Z0.cell 3 _ rfl
  have KK := Lib.hid K0
  have ZZ := Lib.hid Z0
  have HSV := Lib.hid (HS.out.later q0)
  have Q := Lib.hid q0
  have hz := zero_w v HKV.out.2
  obtain ⟨dv, hdv⟩ : ∃ b, decide (v = 0) = b := ⟨_, rfl⟩
  rw [hdv] at hz
  have HDV := Lib.hid hdv
  clear K0 Z0 q0 HS hdv
  go_enter Try.func30, Try.ntmps30
  go_wp2_with fail
  clear hV z0 z1 z2 z3
  go_loopw [7, 8, 9] (fun u d i wr => ∃ (m : Nat) (now : List Sl) (dn : Bool), m ≤ n ∧ d = .bool dn ∧ i = .int .i64 (m : Int) ∧ PutI k v l m now dn ∧ RowT wr V.heap.size u now ∧ Below V.heap.size V wr) (fun _ _ i _ => n - (intOf i).toNat)
  case atStart => exact ⟨0, [], dv, by omega, (by first | rfl | rw [hz]), rfl, HDV.out ▸ PutI.start k v l, ⟨rfl, .inl ⟨rfl, rfl⟩⟩, Below.refl _ _⟩
  case round =>
    obtain ⟨m, now, dn, hm, rfl, rfl, hins, hrow, hq⟩ := hrel
    clear hz
    have HINS := Lib.hid hins
    have HR := Lib.hid hrow
    have HQ := Lib.hid hq
    have QW := Lib.hid (Q.out.trans (hq.mono Q.out.size))
    have HCK := Lib.hid (fun (X : World) (hX : Below V.heap.size V X) => KK.out.later hX)
    have HCV := Lib.hid (fun (X : World) (hX : Below V.heap.size V X) => ZZ.out.later hX)
    clear hins hrow hq
    by_cases hmn : m < n
    · have hmI : (m : Int) < (n : Int) := by omega
      have hm0 : (0 : Int) ≤ (m : Int) := by omega
      have hmb : (m : Int) ≤ 2000 := by have := HL.out.2; omega
      obtain ⟨y, hy⟩ : ∃ y, l[m]? = some y := ⟨_, List.getElem?_eq_getElem (by have := HN.out; omega)⟩
      obtain ⟨b, rfl, _⟩ := (HSV.out.later HQ.out).at hy
      have wy := HSV.out.wide hy
      have HM := Lib.hid hmn
      have HY := Lib.hid (And.intro hy wy)
      have HCY := Lib.hid (fun (X : World) (hX : Below V.heap.size V X) => (HSV.out.later hX).at' hy)
      have CR0 := refCmp_ret y.1 k wy.1 HKV.out.1
      have HGT0 := wcmp_gt y.1 k
      have HEQ0 := eqv_w y.1 k wy.1 HKV.out.1
      unfold wv at CR0
      have CR := Lib.hid CR0
      have HGT := Lib.hid HGT0
      have HEQ := Lib.hid HEQ0
      clear hmn hm hy wy CR0 HGT0 HEQ0
      generalize wcmp y.1 k = cm at *
      have hnl := Lib.hid (show now.length ≤ 2001 from by have h := HINS.out.len; have := HL.out.2; have := HM.out; omega)
      by_cases hyk : y.1 = k
      · replace HEQ := Lib.hid (HEQ.out.trans (decide_eq_true hyk))
        have HYK := Lib.hid hyk
        clear hyk
        have hEQ := HEQ.out
        have ky0 := fun z : Ext wr => (HCY.out z.w (HQ.out.trans (z.below.mono HQ.out.size))).1
        have kx0 := fun z : Ext wr => (HCK.out z.w (HQ.out.trans (z.below.mono HQ.out.size))).cell 0 _ rfl
        have ky1 := fun z : Ext wr => (HCY.out z.w (HQ.out.trans (z.below.mono HQ.out.size))).2.1
        have kx1 := fun z : Ext wr => (HCK.out z.w (HQ.out.trans (z.below.mono HQ.out.size))).cell 1 _ rfl
        have ky2 := fun z : Ext wr => (HCY.out z.w (HQ.out.trans (z.below.mono HQ.out.size))).2.2.1
        have kx2 := fun z : Ext wr => (HCK.out z.w (HQ.out.trans (z.below.mono HQ.out.size))).cell 2 _ rfl
        have ky3 := fun z : Ext wr => (HCY.out z.w (HQ.out.trans (z.below.mono HQ.out.size))).2.2.2.1
        have kx3 := fun z : Ext wr => (HCK.out z.w (HQ.out.trans (z.below.mono HQ.out.size))).cell 3 _ rfl
        go_wp2_with fail
        refine wp_region_quietL (C := Grows wr) hmx (by kernel_rfl) (grows_refl wr) ?_
        repeat (go_big_quiet_step (fail))
        refine wpQuiet_nil ?_
        rintro _ ⟨z1, rfl⟩
        have Q3 := Lib.hid (HQ.out.trans (z1.below.mono HQ.out.size))
        have R3 := Lib.hid (HR.out.later z1.below)
        try clear ky0 kx0 ky1 kx1 ky2 kx2 ky3 kx3
        go_wp2_with fail
        go_roundw
        case rel => exact ⟨m + 1, now, dn, by have := HM.out; omega, rfl, by simp, HINS.out.skip HL.out.1.1 HY.out.1 HYK.out, R3.out, Q3.out⟩
        case measure => have := HM.out; simp [intOf]; omega
      · rcases dn with _ | _
        · rcases Nat.lt_or_ge k y.1 with hlt | hge
          · have hc : 0 < cm := HGT.out.2 hlt
            have HLT := Lib.hid hlt
            clear hlt
            replace HEQ := Lib.hid (HEQ.out.trans (decide_eq_false hyk))
            have HYK := Lib.hid hyk
            clear hyk
            have hEQ := HEQ.out
            have ky0 := fun z : Ext wr => (HCY.out z.w (HQ.out.trans (z.below.mono HQ.out.size))).1
            have kx0 := fun z : Ext wr => (HCK.out z.w (HQ.out.trans (z.below.mono HQ.out.size))).cell 0 _ rfl
            have ky1 := fun z : Ext wr => (HCY.out z.w (HQ.out.trans (z.below.mono HQ.out.size))).2.1
            have kx1 := fun z : Ext wr => (HCK.out z.w (HQ.out.trans (z.below.mono HQ.out.size))).cell 1 _ rfl
            have ky2 := fun z : Ext wr => (HCY.out z.w (HQ.out.trans (z.below.mono HQ.out.size))).2.2.1
            have kx2 := fun z : Ext wr => (HCK.out z.w (HQ.out.trans (z.below.mono HQ.out.size))).cell 2 _ rfl
            have ky3 := fun z : Ext wr => (HCY.out z.w (HQ.out.trans (z.below.mono HQ.out.size))).2.2.2.1
            have kx3 := fun z : Ext wr => (HCK.out z.w (HQ.out.trans (z.below.mono HQ.out.size))).cell 3 _ rfl
            go_wp2_with fail
            refine wp_region_quietL (C := Grows wr) hmx (by kernel_rfl) (grows_refl wr) ?_
            repeat (go_big_quiet_step (fail))
            refine wpQuiet_nil ?_
            rintro _ ⟨z1, rfl⟩
            have Q3 := Lib.hid (HQ.out.trans (z1.below.mono HQ.out.size))
            have R3 := Lib.hid (HR.out.later z1.below)
            try clear ky0 kx0 ky1 kx1 ky2 kx2 ky3 kx3
            have ky0 := fun z : Ext z1.w => (HCY.out z.w (Q3.out.trans (z.below.mono Q3.out.size))).1
            have kx0 := fun z : Ext z1.w => (HCK.out z.w (Q3.out.trans (z.below.mono Q3.out.size))).cell 0 _ rfl
            have ky1 := fun z : Ext z1.w => (HCY.out z.w (Q3.out.trans (z.below.mono Q3.out.size))).2.1
            have kx1 := fun z : Ext z1.w => (HCK.out z.w (Q3.out.trans (z.below.mono Q3.out.size))).cell 1 _ rfl
            have ky2 := fun z : Ext z1.w => (HCY.out z.w (Q3.out.trans (z.below.mono Q3.out.size))).2.2.1
            have kx2 := fun z : Ext z1.w => (HCK.out z.w (Q3.out.trans (z.below.mono Q3.out.size))).cell 2 _ rfl
            have ky3 := fun z : Ext z1.w => (HCY.out z.w (Q3.out.trans (z.below.mono Q3.out.size))).2.2.2.1
            have kx3 := fun z : Ext z1.w => (HCK.out z.w (Q3.out.trans (z.below.mono Q3.out.size))).cell 3 _ rfl
            go_wp2_with fail
            clear hEQ
            refine wp_region_quietL (C := Grows z1.w) hmx (by kernel_rfl) (grows_refl z1.w) ?_
            repeat (go_big_quiet_step (first | (with_reducible exact Ret.at CR.out _)))
            refine wpQuiet_nil ?_
            rintro _ ⟨z2, rfl⟩
            have Q4 := Lib.hid (Q3.out.trans (z2.below.mono Q3.out.size))
            have R4 := Lib.hid (R3.out.later z2.below)
            try clear ky0 kx0 ky1 kx1 ky2 kx2 ky3 kx3
            have p0 := (HCK.out z2.w Q4.out).cell 0 _ rfl
            have p1 := (HCK.out z2.w Q4.out).cell 1 _ rfl
            have p2 := (HCK.out z2.w Q4.out).cell 2 _ rfl
            have p3 := (HCK.out z2.w Q4.out).cell 3 _ rfl
            have p4 := (HCV.out z2.w Q4.out).cell 0 _ rfl
            have p5 := (HCV.out z2.w Q4.out).cell 1 _ rfl
            have p6 := (HCV.out z2.w Q4.out).cell 2 _ rfl
            have p7 := (HCV.out z2.w Q4.out).cell 3 _ rfl
            obtain ⟨v5, W5, hr0, hrw, hbw⟩ := push_slot z2.w V.heap.size (u7) now R4.out Q4.out.size (by have := hnl.out; (try simp only [List.length_append, List.length_cons, List.length_nil]); omega) (k, v)
            have hr : (Builtin.append_ #[22, 22] 22 #[u7, .slice (some ⟨z2.w.heap.size, 0, none⟩) 1 1]).run Try.prog (z2.w.alloc (.cells #[.int .u64 (lim k 0), .int .u64 (lim k 1), .int .u64 (lim k 2), .int .u64 (lim k 3), .int .u64 (lim v 0), .int .u64 (lim v 1), .int .u64 (lim v 2), .int .u64 (lim v 3)] 31)) = .ok v5 W5 := hr0
            have R5 := Lib.hid hrw
            have Q5 := Lib.hid (Q4.out.trans hbw)
            clear hr0 hrw hbw
            have r0 := (HCY.out W5 Q5.out).1
            have r1 := (HCY.out W5 Q5.out).2.1
            have r2 := (HCY.out W5 Q5.out).2.2.1
            have r3 := (HCY.out W5 Q5.out).2.2.2.1
            have r4 := (HCY.out W5 Q5.out).2.2.2.2.1
            have r5 := (HCY.out W5 Q5.out).2.2.2.2.2.1
            have r6 := (HCY.out W5 Q5.out).2.2.2.2.2.2.1
            have r7 := (HCY.out W5 Q5.out).2.2.2.2.2.2.2
            obtain ⟨v6, W6, hr0, hrw, hbw⟩ := push_slot W5 V.heap.size (v5) (now ++ [(k, v)]) R5.out Q5.out.size (by have := hnl.out; (try simp only [List.length_append, List.length_cons, List.length_nil]); omega) y
            have hr2 : (Builtin.append_ #[22, 22] 22 #[v5, .slice (some ⟨W5.heap.size, 0, none⟩) 1 1]).run Try.prog (W5.alloc (.cells #[.int .u64 (lim y.1 0), .int .u64 (lim y.1 1), .int .u64 (lim y.1 2), .int .u64 (lim y.1 3), .int .u64 (lim y.2 0), .int .u64 (lim y.2 1), .int .u64 (lim y.2 2), .int .u64 (lim y.2 3)] 31)) = .ok v6 W6 := hr0
            have R6 := Lib.hid hrw
            have Q6 := Lib.hid (Q5.out.trans hbw)
            clear hr0 hrw hbw
            go_wp2_with (at_builtin; first | (refine wpList_append_run rfl (.tmp 38) (.tmp 42) 22 rfl _ _ _ rfl rfl hr ?_) | (refine wpList_append_run rfl (.tmp 44) (.tmp 49) 22 rfl _ _ _ rfl rfl hr2 ?_))
            clear hc hr hr2 p0 r0 p1 r1 p2 r2 p3 r3 p4 r4 p5 r5 p6 r6 p7 r7
            go_roundw
            case rel => exact ⟨m + 1, now ++ [(k, v)] ++ [y], true, by have := HM.out; omega, rfl, by simp, (HINS.out.put HL.out.1.1 (beyond HL.out.1.1 HY.out.1 HLT.out)).stay HL.out.1.1 HY.out.1 HYK.out (fun h => by cases h), R6.out, Q6.out⟩
            case measure => have := HM.out; simp [intOf]; omega
          · have hc : ¬ 0 < cm := fun h => absurd (HGT.out.1 h) (by omega)
            have HGE := Lib.hid (show y.1 < k by omega)
            clear hge
            replace HEQ := Lib.hid (HEQ.out.trans (decide_eq_false hyk))
            have HYK := Lib.hid hyk
            clear hyk
            have hEQ := HEQ.out
            have ky0 := fun z : Ext wr => (HCY.out z.w (HQ.out.trans (z.below.mono HQ.out.size))).1
            have kx0 := fun z : Ext wr => (HCK.out z.w (HQ.out.trans (z.below.mono HQ.out.size))).cell 0 _ rfl
            have ky1 := fun z : Ext wr => (HCY.out z.w (HQ.out.trans (z.below.mono HQ.out.size))).2.1
            have kx1 := fun z : Ext wr => (HCK.out z.w (HQ.out.trans (z.below.mono HQ.out.size))).cell 1 _ rfl
            have ky2 := fun z : Ext wr => (HCY.out z.w (HQ.out.trans (z.below.mono HQ.out.size))).2.2.1
            have kx2 := fun z : Ext wr => (HCK.out z.w (HQ.out.trans (z.below.mono HQ.out.size))).cell 2 _ rfl
            have ky3 := fun z : Ext wr => (HCY.out z.w (HQ.out.trans (z.below.mono HQ.out.size))).2.2.2.1
            have kx3 := fun z : Ext wr => (HCK.out z.w (HQ.out.trans (z.below.mono HQ.out.size))).cell 3 _ rfl
            go_wp2_with fail
            refine wp_region_quietL (C := Grows wr) hmx (by kernel_rfl) (grows_refl wr) ?_
            repeat (go_big_quiet_step (fail))
            refine wpQuiet_nil ?_
            rintro _ ⟨z1, rfl⟩
            have Q3 := Lib.hid (HQ.out.trans (z1.below.mono HQ.out.size))
            have R3 := Lib.hid (HR.out.later z1.below)
            try clear ky0 kx0 ky1 kx1 ky2 kx2 ky3 kx3
            have ky0 := fun z : Ext z1.w => (HCY.out z.w (Q3.out.trans (z.below.mono Q3.out.size))).1
            have kx0 := fun z : Ext z1.w => (HCK.out z.w (Q3.out.trans (z.below.mono Q3.out.size))).cell 0 _ rfl
            have ky1 := fun z : Ext z1.w => (HCY.out z.w (Q3.out.trans (z.below.mono Q3.out.size))).2.1
            have kx1 := fun z : Ext z1.w => (HCK.out z.w (Q3.out.trans (z.below.mono Q3.out.size))).cell 1 _ rfl
            have ky2 := fun z : Ext z1.w => (HCY.out z.w (Q3.out.trans (z.below.mono Q3.out.size))).2.2.1
            have kx2 := fun z : Ext z1.w => (HCK.out z.w (Q3.out.trans (z.below.mono Q3.out.size))).cell 2 _ rfl
            have ky3 := fun z : Ext z1.w => (HCY.out z.w (Q3.out.trans (z.below.mono Q3.out.size))).2.2.2.1
            have kx3 := fun z : Ext z1.w => (HCK.out z.w (Q3.out.trans (z.below.mono Q3.out.size))).cell 3 _ rfl
            go_wp2_with fail
            clear hEQ
            refine wp_region_quietL (C := Grows z1.w) hmx (by kernel_rfl) (grows_refl z1.w) ?_
            repeat (go_big_quiet_step (first | (with_reducible exact Ret.at CR.out _)))
            refine wpQuiet_nil ?_
            rintro _ ⟨z2, rfl⟩
            have Q4 := Lib.hid (Q3.out.trans (z2.below.mono Q3.out.size))
            have R4 := Lib.hid (R3.out.later z2.below)
            try clear ky0 kx0 ky1 kx1 ky2 kx2 ky3 kx3
            have p0 := (HCY.out z2.w Q4.out).1
            have p1 := (HCY.out z2.w Q4.out).2.1
            have p2 := (HCY.out z2.w Q4.out).2.2.1
            have p3 := (HCY.out z2.w Q4.out).2.2.2.1
            have p4 := (HCY.out z2.w Q4.out).2.2.2.2.1
            have p5 := (HCY.out z2.w Q4.out).2.2.2.2.2.1
            have p6 := (HCY.out z2.w Q4.out).2.2.2.2.2.2.1
            have p7 := (HCY.out z2.w Q4.out).2.2.2.2.2.2.2
            obtain ⟨v5, W5, hr0, hrw, hbw⟩ := push_slot z2.w V.heap.size (u7) now R4.out Q4.out.size (by have := hnl.out; (try simp only [List.length_append, List.length_cons, List.length_nil]); omega) y
            have hr : (Builtin.append_ #[22, 22] 22 #[u7, .slice (some ⟨z2.w.heap.size, 0, none⟩) 1 1]).run Try.prog (z2.w.alloc (.cells #[.int .u64 (lim y.1 0), .int .u64 (lim y.1 1), .int .u64 (lim y.1 2), .int .u64 (lim y.1 3), .int .u64 (lim y.2 0), .int .u64 (lim y.2 1), .int .u64 (lim y.2 2), .int .u64 (lim y.2 3)] 31)) = .ok v5 W5 := hr0
            have R5 := Lib.hid hrw
            have Q5 := Lib.hid (Q4.out.trans hbw)
            clear hr0 hrw hbw
            go_wp2_with (at_builtin; refine wpList_append_run rfl (.tmp 44) (.tmp 49) 22 rfl _ _ _ rfl rfl hr ?_)
            clear hr p0 p1 p2 p3 p4 p5 p6 p7
            go_roundw
            case rel => exact ⟨m + 1, now ++ [y], false, by have := HM.out; omega, rfl, by simp, HINS.out.stay HL.out.1.1 HY.out.1 HYK.out (fun _ => HGE.out), R5.out, Q5.out⟩
            case measure => have := HM.out; simp [intOf]; omega
        · replace HEQ := Lib.hid (HEQ.out.trans (decide_eq_false hyk))
          have HYK := Lib.hid hyk
          clear hyk
          have hEQ := HEQ.out
          have ky0 := fun z : Ext wr => (HCY.out z.w (HQ.out.trans (z.below.mono HQ.out.size))).1
          have kx0 := fun z : Ext wr => (HCK.out z.w (HQ.out.trans (z.below.mono HQ.out.size))).cell 0 _ rfl
          have ky1 := fun z : Ext wr => (HCY.out z.w (HQ.out.trans (z.below.mono HQ.out.size))).2.1
          have kx1 := fun z : Ext wr => (HCK.out z.w (HQ.out.trans (z.below.mono HQ.out.size))).cell 1 _ rfl
          have ky2 := fun z : Ext wr => (HCY.out z.w (HQ.out.trans (z.below.mono HQ.out.size))).2.2.1
          have kx2 := fun z : Ext wr => (HCK.out z.w (HQ.out.trans (z.below.mono HQ.out.size))).cell 2 _ rfl
          have ky3 := fun z : Ext wr => (HCY.out z.w (HQ.out.trans (z.below.mono HQ.out.size))).2.2.2.1
          have kx3 := fun z : Ext wr => (HCK.out z.w (HQ.out.trans (z.below.mono HQ.out.size))).cell 3 _ rfl
          go_wp2_with fail
          refine wp_region_quietL (C := Grows wr) hmx (by kernel_rfl) (grows_refl wr) ?_
          repeat (go_big_quiet_step (fail))
          refine wpQuiet_nil ?_
          rintro _ ⟨z1, rfl⟩
          have Q3 := Lib.hid (HQ.out.trans (z1.below.mono HQ.out.size))
          have R3 := Lib.hid (HR.out.later z1.below)
          try clear ky0 kx0 ky1 kx1 ky2 kx2 ky3 kx3
          go_wp2_with fail
          clear hEQ
          refine wp_region_quietL (C := Grows z1.w) hmx (by kernel_rfl) (grows_refl z1.w) ?_
          repeat (go_big_quiet_step (fail))
          refine wpQuiet_nil ?_
          rintro _ ⟨z2, rfl⟩
          have Q4 := Lib.hid (Q3.out.trans (z2.below.mono Q3.out.size))
          have R4 := Lib.hid (R3.out.later z2.below)
          try clear ky0 kx0 ky1 kx1 ky2 kx2 ky3 kx3
          have p0 := (HCY.out z2.w Q4.out).1
          have p1 := (HCY.out z2.w Q4.out).2.1
          have p2 := (HCY.out z2.w Q4.out).2.2.1
          have p3 := (HCY.out z2.w Q4.out).2.2.2.1
          have p4 := (HCY.out z2.w Q4.out).2.2.2.2.1
          have p5 := (HCY.out z2.w Q4.out).2.2.2.2.2.1
          have p6 := (HCY.out z2.w Q4.out).2.2.2.2.2.2.1
          have p7 := (HCY.out z2.w Q4.out).2.2.2.2.2.2.2
          obtain ⟨v5, W5, hr0, hrw, hbw⟩ := push_slot z2.w V.heap.size (u7) now R4.out Q4.out.size (by have := hnl.out; (try simp only [List.length_append, List.length_cons, List.length_nil]); omega) y
          have hr : (Builtin.append_ #[22, 22] 22 #[u7, .slice (some ⟨z2.w.heap.size, 0, none⟩) 1 1]).run Try.prog (z2.w.alloc (.cells #[.int .u64 (lim y.1 0), .int .u64 (lim y.1 1), .int .u64 (lim y.1 2), .int .u64 (lim y.1 3), .int .u64 (lim y.2 0), .int .u64 (lim y.2 1), .int .u64 (lim y.2 2), .int .u64 (lim y.2 3)] 31)) = .ok v5 W5 := hr0
          have R5 := Lib.hid hrw
          have Q5 := Lib.hid (Q4.out.trans hbw)
          clear hr0 hrw hbw
          go_wp2_with (at_builtin; refine wpList_append_run rfl (.tmp 44) (.tmp 49) 22 rfl _ _ _ rfl rfl hr ?_)
          clear hr p0 p1 p2 p3 p4 p5 p6 p7
          go_roundw
          case rel => exact ⟨m + 1, now ++ [y], true, by have := HM.out; omega, rfl, by simp, HINS.out.stay HL.out.1.1 HY.out.1 HYK.out (fun h => by cases h), R5.out, Q5.out⟩
          case measure => have := HM.out; simp [intOf]; omega
    · have hmI : ¬ (m : Int) < (n : Int) := by omega
      obtain rfl : m = n := by omega
      rcases dn with _ | _
      · have hnl := Lib.hid (show now.length ≤ 2001 from by have h := HINS.out.len; have := HL.out.2; omega)
        have p0 := (HCK.out wr HQ.out).cell 0 _ rfl
        have p1 := (HCK.out wr HQ.out).cell 1 _ rfl
        have p2 := (HCK.out wr HQ.out).cell 2 _ rfl
        have p3 := (HCK.out wr HQ.out).cell 3 _ rfl
        have p4 := (HCV.out wr HQ.out).cell 0 _ rfl
        have p5 := (HCV.out wr HQ.out).cell 1 _ rfl
        have p6 := (HCV.out wr HQ.out).cell 2 _ rfl
        have p7 := (HCV.out wr HQ.out).cell 3 _ rfl
        obtain ⟨v4, W4, hr0, hrw, hbw⟩ := push_slot wr V.heap.size (u7) now HR.out HQ.out.size (by have := hnl.out; (try simp only [List.length_append, List.length_cons, List.length_nil]); omega) (k, v)
        have hr : (Builtin.append_ #[22, 22] 22 #[u7, .slice (some ⟨wr.heap.size, 0, none⟩) 1 1]).run Try.prog (wr.alloc (.cells #[.int .u64 (lim k 0), .int .u64 (lim k 1), .int .u64 (lim k 2), .int .u64 (lim k 3), .int .u64 (lim v 0), .int .u64 (lim v 1), .int .u64 (lim v 2), .int .u64 (lim v 3)] 31)) = .ok v4 W4 := hr0
        have R4 := Lib.hid hrw
        have Q4 := Lib.hid (HQ.out.trans hbw)
        clear hr0 hrw hbw
        have FIN := Lib.hid (show RowT W4 W.heap.size v4 (mergeL l [(k, v)]) ∧ Below W.heap.size W W4 from by
          have e : now ++ [(k, v)] = mergeL l [(k, v)] := by
            have h := HINS.out.put HL.out.1.1 (fun j z hj hz => absurd (List.getElem?_eq_some_iff.1 hz).1 (by have := HN.out; omega))
            rw [← HN.out] at h
            exact h.done HL.out.1
          rw [← e]
          exact ⟨R4.out.lower Q.out.size, Q.out.trans (Q4.out.mono Q.out.size)⟩)
        go_wp2_with (at_builtin; refine wpList_append_run rfl (.tmp 53) (.tmp 57) 22 rfl _ _ _ rfl rfl hr ?_)
        go_ret
        exact ⟨_, rfl, FIN.out⟩
      · have FIN := Lib.hid (show RowT wr W.heap.size u7 (mergeL l [(k, v)]) ∧ Below W.heap.size W wr from by
          have e : now = mergeL l [(k, v)] := by
            have h := HINS.out
            rw [← HN.out] at h
            exact h.done HL.out.1
          rw [← e]
          exact ⟨HR.out.lower Q.out.size, Q.out.trans (HQ.out.mono Q.out.size)⟩)
        go_wp2_with fail
        go_ret
        exact ⟨_, rfl, FIN.out⟩
end Go.Proofs.Ytcannohmbaaceaa
