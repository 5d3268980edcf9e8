/- risen, inOrder, May. Conditions: the keys lie in memory. -/
import Derived.Test.YtbkgipggblphlaaAcW
namespace Go.Proofs.Ytbkgipggblphlaa
open Go Go.RowKit
attribute [local go_sem] Oper.semAt_some Grows wide_fn

set_option maxHeartbeats 2000000 in
theorem risen_any (W : World) (sv : Value) (l : List Ky) (hs : KeysAt W sv l) (hl : l.length ≤ 100000) :
    Calls Try.prog 57 #[sv] W fun e w' => ∃ v', e = .returned v' ∧ KeysAt w' v' (setL l) ∧ Below W.heap.size W w' := by
  have HR := Lib.hid (krises_any W sv l hs)
  have HS := Lib.hid (fun (X : World) (hX : Below W.heap.size W X) => set_keys X sv l (hs.later hX) hl)
  have HK := Lib.hid hs
  obtain ⟨a, cap, rfl, _, _⟩ := hs.shape
  clear hs hl
  obtain ⟨n, hn⟩ : ∃ n, l.length = n := ⟨_, rfl⟩
  rw [hn] at HR HS HK ⊢
  clear hn
  cases hu : kupB l
  · rw [hu] at HR
    clear hu
    go_enter Try.func57, Try.ntmps57
    go_wp2_with fail
    refine HR.out.mono ?_
    rintro _ w1 ⟨rfl, hb1⟩
    go_wp2_with fail
    refine (HS.out w1 hb1).mono ?_
    rintro _ w2 ⟨v2, rfl, hk, hb2⟩
    have KK := Lib.hid hk
    have QF := Lib.hid (hb1.trans (hb2.mono hb1.size))
    obtain ⟨_, _, rfl, _⟩ := hk
    clear hb1 hb2
    go_wp2_with fail
    go_ret
    exact ⟨_, rfl, KK.out, QF.out⟩
  · rw [hu] at HR
    have HU := Lib.hid (setL_self ((kupB_iff l).1 hu))
    clear hu
    go_enter Try.func57, Try.ntmps57
    go_wp2_with fail
    refine HR.out.mono ?_
    rintro _ w1 ⟨rfl, hb1⟩
    have KK := Lib.hid (HK.out.later hb1)
    have QF := Lib.hid hb1
    clear hb1
    go_wp2_with fail
    go_ret
    exact ⟨_, rfl, by rw [HU.out]; exact KK.out, QF.out⟩

/-- Two values stored into a block. -/
def put2 (w : World) (B : Nat) (x y : Value) : World := (w.setCell ⟨B, 0, none⟩ x).setCell ⟨B, 1, none⟩ y
section
variable {w : World} {B : Nat} {t : TypeId} {a b a' b' : Option Addr} {n c m d n' c' m' d' : Nat}
theorem Has.onPut2 (h : Has w B t #[.slice a n c, .slice b m d]) (x y : Value) : Has (put2 w B x y) B t #[x, y] := (h.set 0 x).set 1 y
theorem Has.onPut2_other {B' : Nat} {cs : Array Value} {t' : TypeId} (h : Has w B' t' cs) (hne : B' ≠ B) (x y : Value) : Has (put2 w B x y) B' t' cs := (h.other (p := ⟨B, 0, none⟩) hne x).other (p := ⟨B, 1, none⟩) hne y
theorem KeysAt.onPut2 {v : Value} {l : List Ky} (hk : KeysAt w v l) (h : Has w B t #[.slice a n c, .slice b m d]) (y : Value) : KeysAt (put2 w B (.slice a' n' c') y) v l :=
  (hk.away h 0 _).away (show Has (w.setCell ⟨B, 0, none⟩ (.slice a' n' c')) B t #[.slice a' n' c', .slice b m d] from h.set 0 _) 1 _
theorem below_put2 {K : Nat} {w0 : World} (h : Below K w0 w) (hK : K ≤ B) (x y : Value) : Below K w0 (put2 w B x y) := (h.setCell (p := ⟨B, 0, none⟩) hK x).setCell (p := ⟨B, 1, none⟩) hK y
end
/-- What inOrder's region knows. -/
def UI (W : World) (B : Nat) (x y : Value) (r s : List Ky) (f : Nat → Bool) (g : Nat → Value) (w : World) : Prop :=
  Below W.heap.size W w ∧ Has w B 24 #[x, y] ∧ (f 2 = true → KeysAt w (g 2) r) ∧ (f 5 = true → KeysAt w (g 5) s) ∧ (f 6 = true → g 6 = .agg #[g 2, g 5]) ∧
  (f 7 = false → Has w (B + 1) 24 #[.slice none 0 0, .slice none 0 0]) ∧ (f 7 = true → Has w (B + 1) 24 #[g 2, g 5])
section
variable {W : World} {B : Nat} {x y : Value} {r s : List Ky} {f : Nat → Bool} {g : Nat → Value} {w w' : World}
theorem UI.later (h : UI W B x y r s f g w) (hb : Below w.heap.size w w') : UI W B x y r s f g w' :=
  ⟨h.1.trans (hb.mono h.1.size), h.2.1.later hb, fun k => (h.2.2.1 k).later hb, fun k => (h.2.2.2.1 k).later hb, h.2.2.2.2.1, fun k => (h.2.2.2.2.2.1 k).later hb, fun k => (h.2.2.2.2.2.2 k).later hb⟩
theorem UI.same {f' : Nat → Bool} {g' : Nat → Value} (h : UI W B x y r s f g w) (hh : ∀ j, j = 2 ∨ j = 5 ∨ j = 6 ∨ j = 7 → f j = f' j ∧ g j = g' j) : UI W B x y r s f' g' w := by
  unfold UI at h ⊢
  rwa [(hh 2 (by omega)).1, (hh 2 (by omega)).2, (hh 5 (by omega)).1, (hh 5 (by omega)).2, (hh 6 (by omega)).1, (hh 6 (by omega)).2, (hh 7 (by omega)).1] at h
theorem UI.c2 (h : UI W B x y r s f g w) (hb : Below w.heap.size w w') (f6 : f 6 = false) (f7 : f 7 = false) {v : Value} (hk : KeysAt w' v r) : UI W B x y r s (upd f 2 true) (upd g 2 v) w' := by
  obtain ⟨h1, h2, h3, h4, h5, h6, h7⟩ := h.later hb
  exact ⟨h1, h2, fun _ => by simpa [upd] using hk, by simpa [upd] using h4, by simp [upd, f6], by simpa [upd] using h6, by simp [upd, f7]⟩
theorem UI.c5 (h : UI W B x y r s f g w) (hb : Below w.heap.size w w') (f6 : f 6 = false) (f7 : f 7 = false) {v : Value} (hk : KeysAt w' v s) : UI W B x y r s (upd f 5 true) (upd g 5 v) w' := by
  obtain ⟨h1, h2, h3, h4, h5, h6, h7⟩ := h.later hb
  exact ⟨h1, h2, by simpa [upd] using h3, fun _ => by simpa [upd] using hk, by simp [upd, f6], by simpa [upd] using h6, by simp [upd, f7]⟩
theorem UI.b6 (h : UI W B x y r s f g w) : UI W B x y r s (upd f 6 true) (upd g 6 (.agg #[g 2, g 5])) w := by
  obtain ⟨h1, h2, h3, h4, h5, h6, h7⟩ := h
  exact ⟨h1, h2, by simpa [upd] using h3, by simpa [upd] using h4, by simp [upd], by simpa [upd] using h6, by simpa [upd] using h7⟩
theorem UI.s7 (h : UI W B x y r s f g w) (f2 : f 2 = true) (f5 : f 5 = true) (f7 : f 7 = false) (hB : W.heap.size ≤ B) (u : Value) : UI W B x y r s (upd f 7 true) (upd g 7 u) (put2 w (B + 1) (g 2) (g 5)) := by
  obtain ⟨h1, h2, h3, h4, h5, h6, h7⟩ := h
  obtain ⟨a2, c2, e2, _⟩ := (h3 f2).shape
  obtain ⟨a5, c5, e5, _⟩ := (h4 f5).shape
  have hz := h6 f7
  refine ⟨below_put2 h1 (by omega) _ _, h2.onPut2_other (by omega) _ _, fun _ => ?_, fun _ => ?_, by simpa [upd] using h5, by simp [upd], fun _ => by simpa [upd] using hz.onPut2 _ _⟩
  · have := h3 f2
    rw [e2] at this ⊢
    simpa [upd, e2] using this.onPut2 hz (g 5)
  · have := h4 f5
    have k := this.onPut2 (a' := a2) (n' := r.length) (c' := c2) hz (g 5)
    rw [← e2] at k
    simpa [upd] using k
end
set_option maxRecDepth 100000 in
set_option maxHeartbeats 8000000 in
theorem inorder_any (W : World) (v : Value) (r s : List Ky) (hs : SetsAt W v r s) (hlr : r.length ≤ 100000) (hls : s.length ≤ 100000) :
    Calls Try.prog 39 #[v] W fun e w' => ∃ v', e = .returned v' ∧ SetsAt w' v' (setL r) (setL s) ∧ Below W.heap.size W w' := by
  have hmx : Try.prog.follows .mixedOrders = true := by kernel_rfl
  obtain ⟨rv, sv, rfl, hr, ht⟩ := hs.ex
  obtain ⟨ra, rc, rfl, _, _⟩ := hr.shape
  obtain ⟨sa, sc, rfl, _, _⟩ := ht.shape
  obtain ⟨rn, hrn⟩ : ∃ n, r.length = n := ⟨_, rfl⟩
  obtain ⟨sn, hsn⟩ : ∃ n, s.length = n := ⟨_, rfl⟩
  have HRI := Lib.hid (fun (X : World) (hX : Below W.heap.size W X) => risen_any X _ r (hr.later hX) hlr)
  have HSI := Lib.hid (fun (X : World) (hX : Below W.heap.size W X) => risen_any X _ s (ht.later hX) hls)
  rw [hrn] at HRI
  rw [hsn] at HSI
  clear hr ht hs hlr hls
  rw [hrn, hsn]
  clear hrn hsn
  have h0 := (Has.new W 24 #[.slice ra rn rc, .slice sa sn sc]).alloc (.cells #[.slice none 0 0, .slice none 0 0] 24)
  have h1 := Has.new (W.alloc (.cells #[.slice ra rn rc, .slice sa sn sc] 24)) 24 #[.slice none 0 0, .slice none 0 0]
  simp only [World.size_alloc] at h1
  have q0 := ((Below.refl W.heap.size W).alloc (Nat.le_refl _) (.cells #[.slice ra rn rc, .slice sa sn sc] 24)).alloc (by simp) (.cells #[.slice none 0 0, .slice none 0 0] 24)
  obtain ⟨V, hV⟩ : ∃ V, (W.alloc (.cells #[.slice ra rn rc, .slice sa sn sc] 24)).alloc (.cells #[.slice none 0 0, .slice none 0 0] 24) = V := ⟨_, rfl⟩
  rw [hV] at h0 h1 q0
  have H0 := Lib.hid h0
  have H1 := Lib.hid h1
  have Q0 := Lib.hid q0
  clear h0 h1 q0
  go_enter Try.func39, Try.ntmps39
  go_wp2_with fail
  refine wp_region_ghost [some (.pointer (some ⟨W.heap.size, 0, none⟩)), some (.slice ra rn rc), none, some (.pointer (some ⟨W.heap.size, 1, none⟩)), some (.slice sa sn sc), none, none, none] [[], [0], [0, 1], [], [3], [0, 1, 2, 3, 4], [0, 1, 2, 3, 4, 5], [0, 1, 2, 3, 4, 5, 6]] (UI W W.heap.size (.slice ra rn rc) (.slice sa sn sc) (setL r) (setL s)) hmx (by kernel_rfl) (by kernel_rfl) (fun f g wa wb h hb => h.later hb) (fun f f' g g' wa h => fun hh => hh.same (fun j hj => h j (by rcases hj with rfl | rfl | rfl | rfl <;> rfl))) ?_ ?_
  · exact UI.later (show UI W W.heap.size (.slice ra rn rc) (.slice sa sn sc) (setL r) (setL s) (fun _ => false) (fun _ => undef) V from ⟨Q0.out, H0.out, fun h => absurd h (by simp), fun h => absurd h (by simp), fun h => absurd h (by simp), fun _ => H1.out, fun h => absurd h (by simp)⟩) (Below.refl _ _).drew
  rintro f g y hU Dn
  refine GW.known _ rfl (fun hd hf => ?_) ?_
  · clear hU Dn hd
    go_wp2_with fail
    exact ⟨rfl, rfl, Below.refl _ _⟩
  simp only [Act.put, List.setIfInBounds_toArray, List.set_cons_succ, List.set_cons_zero]
  refine GW.known _ rfl (fun hd hf => ?_) ?_
  · have c := hU.2.1.cell 0 _ rfl
    clear hU Dn hd
    go_wp2_with fail
    exact ⟨rfl, rfl, Below.refl _ _⟩
  simp only [Act.put, List.setIfInBounds_toArray, List.set_cons_succ, List.set_cons_zero]
  refine GW.open rfl (fun hd hf => ?_) ?_
  · have f6 : f 6 = false := (by cases h : f 6 with | false => rfl | true => exact absurd (Dn 6 h 2 (by decide)) (by rw [hf]; simp))
    have f7 : f 7 = false := (by cases h : f 7 with | false => rfl | true => exact absurd (Dn 7 h 2 (by decide)) (by rw [hf]; simp))
    have HC := HRI.out y hU.1
    have hfin := fun (w' : World) (v : Value) (hb : Below y.heap.size y w') (hk : KeysAt w' v (setL r)) => hU.c2 hb f6 f7 hk
    clear hU Dn hd f6 f7
    go_wp2_with fail
    refine HC.mono ?_
    rintro e u ⟨v', rfl, hk, hb⟩
    have hfin' := hfin u v' hb hk
    clear hfin HC hk hb
    go_wp2
    exact ⟨rfl, hfin'⟩
  simp only [Act.put, List.setIfInBounds_toArray, List.set_cons_succ, List.set_cons_zero]
  refine GW.known _ rfl (fun hd hf => ?_) ?_
  · clear hU Dn hd
    go_wp2_with fail
    exact ⟨rfl, rfl, Below.refl _ _⟩
  simp only [Act.put, List.setIfInBounds_toArray, List.set_cons_succ, List.set_cons_zero]
  refine GW.known _ rfl (fun hd hf => ?_) ?_
  · have c := hU.2.1.cell 1 _ rfl
    clear hU Dn hd
    go_wp2_with fail
    exact ⟨rfl, rfl, Below.refl _ _⟩
  simp only [Act.put, List.setIfInBounds_toArray, List.set_cons_succ, List.set_cons_zero]
  refine GW.open rfl (fun hd hf => ?_) ?_
  · have f6 : f 6 = false := (by cases h : f 6 with | false => rfl | true => exact absurd (Dn 6 h 5 (by decide)) (by rw [hf]; simp))
    have f7 : f 7 = false := (by cases h : f 7 with | false => rfl | true => exact absurd (Dn 7 h 5 (by decide)) (by rw [hf]; simp))
    have HC := HSI.out y hU.1
    have hfin := fun (w' : World) (v : Value) (hb : Below y.heap.size y w') (hk : KeysAt w' v (setL s)) => hU.c5 hb f6 f7 hk
    clear hU Dn hd f6 f7
    go_wp2_with fail
    refine HC.mono ?_
    rintro e u ⟨v', rfl, hk, hb⟩
    have hfin' := hfin u v' hb hk
    clear hfin HC hk hb
    go_wp2
    exact ⟨rfl, hfin'⟩
  simp only [Act.put, List.setIfInBounds_toArray, List.set_cons_succ, List.set_cons_zero]
  refine GW.open rfl (fun hd hf => ?_) ?_
  · obtain ⟨a2, c2, e2, _⟩ := (hU.2.2.1 (hd 2 (by decide))).shape
    obtain ⟨a5, c5, e5, _⟩ := (hU.2.2.2.1 (hd 5 (by decide))).shape
    have hm := hU.b6
    rw [e2, e5] at hm ⊢
    clear hU Dn hd e2 e5
    go_wp2_with fail
    exact ⟨rfl, hm⟩
  simp only [Act.put, List.setIfInBounds_toArray, List.set_cons_succ, List.set_cons_zero]
  refine GW.open rfl (fun hd hf => ?_) ?_
  · obtain ⟨a2, c2, e2, _⟩ := (hU.2.2.1 (hd 2 (by decide))).shape
    obtain ⟨a5, c5, e5, _⟩ := (hU.2.2.2.1 (hd 5 (by decide))).shape
    have e6 := hU.2.2.2.2.1 (hd 6 (by decide))
    have hz := hU.2.2.2.2.2.1 hf
    have z0 := hz.cell 0 _ rfl
    have z1 := hz.cell 1 _ rfl
    have f0 := hz.frozen 0
    have f1 := hz.frozen 1
    have hm := fun u => hU.s7 (hd 2 (by decide)) (hd 5 (by decide)) hf (Nat.le_refl _) u
    rw [e6, e2, e5]
    rw [e2, e5] at hm
    clear hU Dn hd e2 e5 e6 hz
    go_wp2_with fail
    exact ⟨rfl, hm _⟩
  simp only [Act.put, List.setIfInBounds_toArray, List.set_cons_succ, List.set_cons_zero]
  refine GW.nil fun hall => ?_
  have h2 := hU.2.2.1 (hall 2 (by decide))
  have h5 := hU.2.2.2.1 (hall 5 (by decide))
  have hF := Lib.hid (hU.2.2.2.2.2.2 (hall 7 (by decide)))
  have QF := Lib.hid hU.1
  have HF := Lib.hid (show SetsAt y (.agg #[g 2, g 5]) (setL r) (setL s) from ⟨_, _, rfl, h2, h5⟩)
  clear hU Dn hall h2 h5
  go_wp2_with fail
  refine bodyPost_ret (results_sets rfl rfl hF.out) rfl ?_
  exact ⟨_, rfl, HF.out, QF.out⟩
set_option maxRecDepth 100000 in
set_option maxHeartbeats 4000000 in
theorem kmay_any (W : World) (v : Value) (r s : List Ky) (k : Ky) (b : Bool) (hk : KyOk k) (hs : SetsAt W v r s) :
    Calls Try.prog 17 #[v, .agg (kyC k), .bool b] W fun e w' => e = .returned (.bool (s.any (fun x => decide (k = x)) || (!b && r.any fun x => decide (k = x)))) ∧ Below W.heap.size W w' := by
  obtain ⟨rv, sv, rfl, hr, ht⟩ := hs.ex
  obtain ⟨ra, rc, rfl, _, _⟩ := hr.shape
  obtain ⟨sa, sc, rfl, _, _⟩ := ht.shape
  have HS := Lib.hid (fun (X : World) (hX : Below W.heap.size W X) => kcontains_any X _ s k hk (ht.later hX))
  have HR := Lib.hid (fun (X : World) (hX : Below W.heap.size W X) => kcontains_any X _ r k hk (hr.later hX))
  clear hs hr ht hk
  have h0 := (Has.new W 24 #[.slice ra r.length rc, .slice sa s.length sc]).alloc (.cells (kyC k) 31)
  have h1 := Has.new (W.alloc (.cells #[.slice ra r.length rc, .slice sa s.length sc] 24)) 31 (kyC k)
  simp only [World.size_alloc] at h1
  have q0 := ((Below.refl W.heap.size W).alloc (Nat.le_refl _) (.cells #[.slice ra r.length rc, .slice sa s.length sc] 24)).alloc (by simp) (.cells (kyC k) 31)
  obtain ⟨V, hV⟩ : ∃ V, (W.alloc (.cells #[.slice ra r.length rc, .slice sa s.length sc] 24)).alloc (.cells (kyC k) 31) = V := ⟨_, rfl⟩
  rw [hV] at h0 h1 q0
  have H0 := Lib.hid h0
  have H1 := Lib.hid h1
  have Q := Lib.hid q0
  have c1 := h0.cell 1 _ rfl
  have L0 := Lib.hid h1.kyLoad
  have L1 := Lib.hid (fun (X : World) (hX : Below V.heap.size V X) => (h1.later hX).kyLoad)
  have HS0 := Lib.hid (HS.out V q0)
  generalize (s.any fun x => decide (k = x)) = p at *
  generalize (r.any fun x => decide (k = x)) = q at *
  generalize r.length = rn at *
  generalize s.length = sn at *
  generalize kyC k = ck at *
  clear h0 h1 q0
  cases p
  · cases b
    · go_enter Try.func17, Try.ntmps17
      go_wp2_with (first | (with_reducible refine wpList_load_known rfl _ (.tmp 4) rfl _ rfl _ L0.out ?_) | fail)
      refine HS0.out.mono ?_
      rintro _ w1 ⟨rfl, hb1⟩
      have c0 := (H0.out.later hb1).cell 0 _ rfl
      have HE := Lib.hid (Q.out.trans (hb1.mono Q.out.size))
      have L2 := Lib.hid (L1.out w1 hb1)
      go_wp2_with (first | (with_reducible refine wpList_load_known rfl _ (.tmp 4) rfl _ rfl _ L2.out ?_) | fail)
      refine (HR.out w1 HE.out).mono ?_
      rintro _ w2 ⟨rfl, hb2⟩
      have HF := Lib.hid (HE.out.trans (hb2.mono HE.out.size))
      go_wp2_with fail
      go_ret
      exact ⟨rfl, HF.out⟩
    · go_enter Try.func17, Try.ntmps17
      go_wp2_with (first | (with_reducible refine wpList_load_known rfl _ (.tmp 4) rfl _ rfl _ L0.out ?_) | fail)
      refine HS0.out.mono ?_
      rintro _ w1 ⟨rfl, hb1⟩
      have HE := Lib.hid (Q.out.trans (hb1.mono Q.out.size))
      go_wp2_with fail
      go_ret
      exact ⟨rfl, HE.out⟩
  · go_enter Try.func17, Try.ntmps17
    go_wp2_with (first | (with_reducible refine wpList_load_known rfl _ (.tmp 4) rfl _ rfl _ L0.out ?_) | fail)
    refine HS0.out.mono ?_
    rintro _ w1 ⟨rfl, hb1⟩
    have HE := Lib.hid (Q.out.trans (hb1.mono Q.out.size))
    go_wp2_with fail
    go_ret
    exact ⟨rfl, HE.out⟩
end Go.Proofs.Ytbkgipggblphlaa
