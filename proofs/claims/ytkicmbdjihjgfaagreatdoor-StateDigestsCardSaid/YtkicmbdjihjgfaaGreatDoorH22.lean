/- Part. -/
import Derived.Test.YtkicmbdjihjgfaaGreatDoorH21
import Derived.Laws.BytesArg
set_option maxRecDepth 100000
set_option maxHeartbeats 16000000
namespace Go.Proofs.YtkicmbdjihjgfaaGreatDoor
open Go Go.RowKit
attribute [local go_sem] Oper.semAt_some Grows wide_fn
noncomputable def lpBody : Code := match Tryz.f74.body with
 | some (.seq _ (.seq _ (.seq (.seq _ (.block _ (.rangeFunc _ _ _ b))) _))) => b
 | _ => .skip
theorem list_body {α : Type} (item : α → It) (l : List α) (w w3 : World) (Ws Bk base N : Nat) (hBS : Bk = w.heap.size + 1 ∧ Ws = Bk + 1 ∧ base = Ws + 2 ∧ w3.heap.size = base) (hNl : l.length = N ∧ N ≤ 1000000) (m ll k : Nat) (v0 v1 v7 v8 v9 : Value) (W : World) (hkN : k < N) (hst : LsSt item l w w.heap.size Bk base k W)
  (x : α) (sv : Value) (bx : Nat) (u0 u1 u2 : Value) (hx : l[k]? = some x) (h4 : Has W Bk 76 #[sv] ∧ Has W bx 78 #[u0, u1, u2] ∧ base ≤ bx ∧ sv.ownBlock ≠ some bx) (hkid : ItemS W (fun b => base ≤ b ∧ sv.ownBlock ≠ some b) (item x) (.agg #[u0, u1, u2])) :
  lpBody.wpIn (Fence.wide.inRound ll) m Tryz.prog (roundN w3.heap.size (KpB w.heap.size [Ws, Ws + 1]) (fun k W => LsSt item l w w.heap.size Bk base k W) (fun _ _ _ => False) k W) { tmps := #[v0, v1, undef, undef, .pointer (some ⟨w.heap.size, 0, none⟩), .pointer (some ⟨Bk, 0, none⟩), .pointer (some ⟨bx, 0, none⟩), v7, v8, v9, .agg #[u0, u1, u2], undef, undef, undef, undef, undef, undef, undef, undef], defers := [] } W := by
 have hmx : Tryz.prog.follows .mixedOrders = true := by kernel_rfl
 have HBS := hid hBS
 have HN := hid hNl
 obtain ⟨hO, hX, hbx, hxn0⟩ := h4
 clear hBS hNl
 unfold lpBody Tryz.f74
 dsimp only
 obtain ⟨sv', h8, hO', hV, hG, hbW0⟩ := hst
 have hsv : sv = sv' := by
  have := hO.injZ hO'
  injection this with this
  injection this
 subst hsv
 obtain ⟨l0, b0, q0, n0, cc0, rfl, rfl, rfl⟩ : ∃ l b q n c, u0 = .bool l ∧ u1 = .string b ∧ u2 = .slice q n c := by
  obtain ⟨q1, q2, hv, _⟩ := hkid.open
  injection hv with hv
  injection hv with hv
  injection hv with e0 hv
  injection hv with e1 hv
  injection hv with e2 hv
  exact ⟨_, _, _, _, _, e0, e1, e2⟩
 have hnext : (l.take (k + 1)).map item = (l.take k).map item ++ [item x] := by rw [List.take_add_one, hx]; simp
 have hkl : ((l.take k).map item).length ≤ 1000000 := by rw [List.length_map, List.length_take]; have := HN.out; omega
 obtain ⟨acc, hacc⟩ : ∃ acc, (l.take k).map item = acc := ⟨_, rfl⟩
 rw [hacc] at hV hnext hkl
 obtain ⟨sa, sc, rfl⟩ := hV.shape
 obtain ⟨vs, hvs, hown, hkids⟩ := hV
 obtain ⟨L, hL⟩ : ∃ L, acc.length = L := ⟨_, rfl⟩
 rw [hL] at hO hO' hown hxn0 hkids hkid hvs hkl
 have hLL := hid (show L + 1 ≤ 1099511627777 by omega)
 have rowblock : ∀ {y : World}, y.ownsRow base 78 3 (.slice sa L sc) L (flat3 vs) → ∀ {g : Nat}, Value.ownBlock (.slice sa L sc) = some g → base ≤ g := fun h g e => by
  rcases h.2 with ⟨h1, _⟩ | ⟨g1, cap, cur, e1, e2, _⟩
  ·rw [h1] at e; cases e
  ·rw [e1] at e; injection e with e; subst e; exact e2
 have rowcells : ∀ {y : World}, y.ownsRow base 78 3 (.slice sa L sc) L (flat3 vs) → ∀ {g : Nat}, Value.ownBlock (.slice sa L sc) = some g → base ≤ g ∧ ∃ cs, y.heap[g]? = some (.cells cs 78 (0, 0)) := fun h g e => by
  rcases h.2 with ⟨h1, _⟩ | ⟨g1, cap, cur, e1, e2, e3, _⟩
  ·rw [h1] at e; cases e
  ·rw [e1] at e; injection e with e; subst e; exact ⟨e2, cur, e3⟩
 have kX := hid hX
 have kO := hid hO
 have kV := hid hown
 have hbW := hid hbW0
 have hxn := hid hxn0
 have hbB := hid (show Bk < base by have := HBS.out; omega)
 have hrest := hid (And.intro hvs (And.intro hkids (And.intro hkid (And.intro h8 (And.intro hG (And.intro hL (And.intro hbx (And.intro hnext hkN))))))))
 clear hX hO hO' hown hbW0 hxn0 hvs hkids hkid h8 hG hL hbx hkl hacc hnext hkN hx
 gi_wp2_with fail
 refine wpIn_region_ghost (free_round ll) [some (.slice sa L sc), some (.agg #[.bool l0, .string b0, .slice q0 n0 cc0]), some (.int .i64 (L : Int)), none, none, none, none, none]
  [[], [], [0], [], [0, 1, 2, 3], [0, 1, 2, 3, 4], [0, 1, 2, 3, 4, 5], [0, 1, 2, 3, 4]]
  (fun f g' y => (TwoB Bk (.slice sa L sc) W y ∧ Has y bx 78 #[.bool l0, .string b0, .slice q0 n0 cc0]) ∧ ((f 7 = false → Has y Bk 76 #[.slice sa L sc]) ∧ (f 7 = true → Has y Bk 76 #[g' 4])) ∧
   ((f 4 = false → y.ownsRow base 78 3 (.slice sa L sc) L (flat3 vs)) ∧ (f 3 = true → ∃ b4, g' 3 = .slice (some ⟨b4, 0, none⟩) 1 1 ∧ (f 4 = false → Has y b4 78 #[.bool false, .string ⟨#[]⟩, .slice none 0 0]))) ∧
   (f 4 = true → ∃ gb cap, g' 4 = .slice (some ⟨gb, 0, none⟩) (L + 1) cap ∧ (Value.ownBlock (.slice sa L sc) = some gb ∨ W.heap.size ≤ gb) ∧ (f 6 = false → y.ownsRow base 78 3 (g' 4) (L + 1) (flat3 vs ++ [.bool false, .string ⟨#[]⟩, .slice none 0 0])) ∧ (f 6 = true → y.ownsRow base 78 3 (g' 4) (L + 1) (flat3 vs ++ [.bool l0, .string b0, .slice q0 n0 cc0])) ∧ (f 5 = true → g' 5 = .pointer (some ⟨gb, L * 3, none⟩))))
  hmx (by kernel_rfl) (by kernel_rfl) ?_ ?_ ?_ ?_
 ·rintro f g' wa wb ⟨⟨k1, k2⟩, ⟨k3, k4⟩, ⟨k5, k6⟩, k7⟩ hb
  refine ⟨⟨k1.below hb, k2.later hb⟩, ⟨fun h => (k3 h).later hb, fun h => (k4 h).later hb⟩, ⟨fun h => owns_below (k5 h) hb, fun h => ?_⟩, fun h => ?_⟩
  ·obtain ⟨b4, e1, e2⟩ := k6 h
   exact ⟨b4, e1, fun h' => (e2 h').later hb⟩
  ·obtain ⟨gb, cap, e1, e2, e3, e4, e5⟩ := k7 h
   exact ⟨gb, cap, e1, e2, fun h' => owns_below (e3 h') hb, fun h' => owns_below (e4 h') hb, e5⟩
 ·intro f f' g1 g1' wa h
  have h4 := h 3 rfl
  have h5 := h 4 rfl
  have h6 := h 5 rfl
  have h7 := h 6 rfl
  have h9 := h 7 rfl
  rw [h4.1, h4.2, h5.1, h5.2, h6.1, h6.2, h7.1, h9.1]
  exact id
 ·exact ⟨⟨(TwoB.refl _ _ _).below (Below.refl _ _).drew, kX.out⟩, ⟨fun _ => kO.out, fun h => by cases h⟩, ⟨fun _ => owns_below kV.out (Below.refl _ _).drew, fun h => by cases h⟩, fun h => by cases h⟩
 rintro f g' y ⟨⟨k1, k2⟩, ⟨k3, k4⟩, ⟨k5, k6⟩, k7⟩ Dn
 have c0 := k2.cell 0 (.bool l0) rfl
 have c1 := k2.cell 1 (.string b0) rfl
 have c2 := k2.cell 2 (.slice q0 n0 cc0) rfl
 have hysz : W.heap.size ≤ y.heap.size := k1.1.2.2.2
 replace hysz := hid hysz
 replace k1 := hid k1
 replace k2 := hid k2
 replace k3 := hid k3
 replace k4 := hid k4
 replace k5 := hid k5
 replace k6 := hid k6
 replace k7 := hid k7
 refine GW.known _ rfl (fun hd' hf => ?_) ?_
 ·have hf9 : f 7 = false := by
   rcases h : f 7 with _ | _
   ·rfl
   ·have := Dn 7 h 0 (by decide); rw [hf] at this; cases this
  have o2 := (k3.out hf9).cell 0 (.slice sa L sc) rfl
  go_wp2
  exact ⟨rfl, rfl, Below.refl _ _⟩
 simp only [Act.put, sT, sS, sZ]
 refine GW.known _ rfl (fun hd' hf => ?_) ?_
 ·go_wp2
  exact ⟨rfl, rfl, Below.refl _ _⟩
 simp only [Act.put, sT, sS, sZ]
 refine GW.known _ rfl (fun hd' hf => ?_) ?_
 ·go_wp2
  exact ⟨rfl, rfl, Below.refl _ _⟩
 simp only [Act.put, sT, sS, sZ]
 refine GW.open rfl (fun hd' hf => ?_) ?_
 ·have hf5 : f 4 = false := by
   rcases h : f 4 with _ | _
   ·rfl
   ·have := Dn 4 h 3 (by decide); rw [hf] at this; cases this
  have N4 := Has.new y 78 #[.bool false, .string ⟨#[]⟩, .slice none 0 0]
  have q4 := newA y (.cells #[.bool false, .string ⟨#[]⟩, .slice none 0 0] 78)
  replace N4 := hid N4
  replace q4 := hid q4
  have hf9 : f 7 = false := by
   rcases h : f 7 with _ | _
   ·rfl
   ·have := Dn 7 h 3 (by decide); rw [hf] at this; cases this
  have hfs := hid (And.intro hf5 hf9)
  clear hf5 hf9 hf
  go_wp2
  exact ⟨rfl, ⟨⟨k1.out.below q4.out, k2.out.later q4.out⟩, ⟨fun _ => (k3.out hfs.out.2).later q4.out, fun h => absurd ((show f 7 = true from h).symm.trans hfs.out.2) (by decide)⟩, ⟨fun _ => owns_below (k5.out hfs.out.1) q4.out, fun _ => ⟨y.heap.size, rfl, fun _ => N4.out⟩⟩, fun h => absurd ((show f 4 = true from h).symm.trans hfs.out.1) (by decide)⟩⟩
 simp only [Act.put, sT, sS, sZ]
 refine GW.open rfl (fun hd' hf => ?_) ?_
 ·obtain ⟨b4, e4, hb4⟩ := k6.out (hd' 3 (by decide))
  have hB4 := hb4 hf
  have hV := k5.out hf
  obtain ⟨i, hi, hz, hsize, hby⟩ := infoI_of
  have hf9 : f 7 = false := by
   rcases h : f 7 with _ | _
   ·rfl
   ·have := Dn 7 h 4 (by decide); rw [hf] at this; cases this
  have hf7 : f 6 = false := by
   rcases h : f 6 with _ | _
   ·rfl
   ·have := Dn 6 h 4 (by decide); rw [hf] at this; cases this
  have hf6 : f 5 = false := by
   rcases h : f 5 with _ | _
   ·rfl
   ·have := Dn 5 h 4 (by decide); rw [hf] at this; cases this
  refine wpList_append_src y rfl (.tmp 11) (.tmp 14) 76 76 rfl base 78 i _ 3 48 Tryz.underlying76 hi hz hsize hby rfl (by decide) (.slice sa L sc) L (flat3 vs) rfl hV (.slice (some ⟨b4, 0, none⟩) 1 1) 1 (by decide) [.bool false, .string ⟨#[]⟩, .slice none 0 0] (by simpa [Act.eval] using e4) (by
   rw [hsize]
   refine Src.ofSlice y Tryz.underlying76 ⟨b4, 0, none⟩ 1 1 _ rfl (fun j u hj => ?_) (by simp [Value.oneCell'])
   have ha : (⟨b4, 0, none⟩ : Addr).add j = ⟨b4, j, none⟩ := by unfold Addr.add; split <;> simp_all
   rw [ha]
   exact hB4.cell j u (by simpa using hj)) (by have := hLL.out; omega) (by have := hLL.out; simp only [maxLen]; omega) (Nat.le_trans hbW.out hysz.out) ?_
  intro v' w' j1 j2 j3
  obtain ⟨gb, cap, ev'⟩ : ∃ gb cap, v' = .slice (some ⟨gb, 0, none⟩) (L + 1) cap := by
   rcases j1.2 with ⟨_, h0⟩ | ⟨g, cap, cur, e, _⟩
   ·omega
   ·exact ⟨g, cap, e⟩
  have hnb : Value.ownBlock (.slice sa L sc) = some gb ∨ W.heap.size ≤ gb := by
   have hob : v'.ownBlock = some gb := by rw [ev']; rfl
   rcases j3 with h | h
   ·exact .inl (h.symm.trans hob)
   ·rw [hob] at h; injection h with h; exact .inr (by have := hysz.out; omega)
  have hxb : Has w' bx 78 #[.bool l0, .string b0, .slice q0 n0 cc0] := (j2.block bx k2.out.lt (fun e => hxn.out e.symm)).trans k2.out
  have hob : Has w' Bk 76 #[.slice sa L sc] := (j2.block Bk (k3.out hf9).lt (fun e => by
   have := (rowblock hV e.symm); have := hbB.out; omega)).trans (k3.out hf9)
  exact ⟨rfl, ⟨⟨k1.out.row j2 (.inl rfl), hxb⟩, ⟨fun _ => hob, fun h => absurd ((show f 7 = true from h).symm.trans hf9) (by decide)⟩, ⟨fun h => absurd (show true = false from h) (by decide), fun _ => ⟨b4, e4, fun h => absurd (show true = false from h) (by decide)⟩⟩, fun _ => ⟨gb, cap, ev', hnb, fun _ => j1, fun h => absurd ((show f 6 = true from h).symm.trans hf7) (by decide), fun h => absurd ((show f 5 = true from h).symm.trans hf6) (by decide)⟩⟩⟩
 simp only [Act.put, sT, sS, sZ]
 refine GW.open rfl (fun hd' hf => ?_) ?_
 ·obtain ⟨gb, cap, e5, e6, e7, e8, e9⟩ := k7.out (hd' 4 (by decide))
  have hf7 : f 6 = false := by
   rcases h : f 6 with _ | _
   ·rfl
   ·have := Dn 6 h 5 (by decide); rw [hf] at this; cases this
  have f5 := hd' 4 (by decide)
  have e10 := hid (e7 hf7)
  have hfs := hid (And.intro f5 hf7)
  have e5H := hid e5
  have e6H := hid e6
  clear f5 hf7 hf e6 e7 e8 e9
  rw [show g' (0 + 1 + 1 + 1 + 1) = .slice (some ⟨gb, 0, none⟩) (L + 1) cap from e5]
  clear e5
  have hLI : (L : Int) < ((L + 1 : Nat) : Int) := by omega
  have hLI0 : (0 : Int) ≤ (L : Int) := by omega
  have hLn : L < L + 1 := by omega
  go_wp2
  exact ⟨rfl, ⟨⟨k1.out, k2.out⟩, ⟨fun h => k3.out h, fun h => k4.out h⟩, ⟨fun h => k5.out h, fun h => k6.out h⟩, fun _ => ⟨gb, cap, e5H.out, e6H.out, fun _ => e10.out, fun h => absurd ((show f 6 = true from h).symm.trans hfs.out.2) (by decide), fun _ => rfl⟩⟩⟩
 simp only [Act.put, sT, sS, sZ]
 refine GW.open rfl (fun hd' hf => ?_) ?_
 ·obtain ⟨gb, cap, e5, e6, e7, e8, e9⟩ := k7.out (hd' 4 (by decide))
  have e10 := e9 (hd' 5 (by decide))
  have hown := e7 hf
  have hob : (g' 4).ownBlock = some gb := by rw [e5]; rfl
  have hvl : (flat3 vs).length = L * 3 := by rw [flat3_length, hrest.out.1]
  obtain ⟨hrow, cs, hcs, hsz⟩ := owns_set3 hown hvl hob (.bool l0) (.string b0) (.slice q0 n0 cc0)
  have hgbb : base ≤ gb := by
   rcases hown.2 with ⟨h1, _⟩ | ⟨g1, _, _, e1, e2, _⟩
   ·rw [e5] at h1; cases h1
   ·rw [e1] at hob; injection hob with hob; subst hob; exact e2
  have hgx : bx ≠ gb := fun e => by
   rcases e6 with h | h
   ·exact hxn.out (by rw [e]; exact h)
   ·have := kX.out.lt; omega
  have hgo : Bk ≠ gb := by have := hbB.out; omega
  have r0 := hcs.cell (L * 3) _ (Array.getElem?_eq_getElem (show L * 3 < cs.size by omega))
  have r1 := hcs.cell (L * 3 + 1) _ (Array.getElem?_eq_getElem (show L * 3 + 1 < cs.size by omega))
  have r2 := hcs.cell (L * 3 + 2) _ (Array.getElem?_eq_getElem (show L * 3 + 2 < cs.size by omega))
  have z0 := hcs.frozen (L * 3)
  have z1 := hcs.frozen (L * 3 + 1)
  have z2 := hcs.frozen (L * 3 + 2)
  generalize cs[L * 3] = rv0 at *
  generalize cs[L * 3 + 1] = rv1 at *
  generalize cs[L * 3 + 2] = rv2 at *
  have hfs := hid (And.intro (hd' 4 (by decide)) hf)
  have hE := hid (And.intro hrow (And.intro e5 (And.intro e6 (And.intro e10 (And.intro hgx hgo)))))
  rw [show g' (0 + 1 + 1 + 1 + 1 + 1) = .pointer (some ⟨gb, L * 3, none⟩) from e10]
  clear e5 e6 e7 e8 e9 e10 hown hob hrow hcs hf hd' hgx hgo hvl hsz hgbb
  go_wp2
  exact ⟨rfl, ⟨⟨((k1.out.set (p := ⟨gb, L * 3, none⟩) (.inr hE.out.2.2.1) (.bool l0)).set (p := ⟨gb, L * 3 + 1, none⟩) (.inr hE.out.2.2.1) (.string b0)).set (p := ⟨gb, L * 3 + 2, none⟩) (.inr hE.out.2.2.1) (.slice q0 n0 cc0), ((k2.out.other (p := ⟨gb, L * 3, none⟩) hE.out.2.2.2.2.1 (.bool l0)).other (p := ⟨gb, L * 3 + 1, none⟩) hE.out.2.2.2.2.1 (.string b0)).other (p := ⟨gb, L * 3 + 2, none⟩) hE.out.2.2.2.2.1 (.slice q0 n0 cc0)⟩, ⟨fun h => (((k3.out h).other (p := ⟨gb, L * 3, none⟩) hE.out.2.2.2.2.2 (.bool l0)).other (p := ⟨gb, L * 3 + 1, none⟩) hE.out.2.2.2.2.2 (.string b0)).other (p := ⟨gb, L * 3 + 2, none⟩) hE.out.2.2.2.2.2 (.slice q0 n0 cc0), fun h => (((k4.out h).other (p := ⟨gb, L * 3, none⟩) hE.out.2.2.2.2.2 (.bool l0)).other (p := ⟨gb, L * 3 + 1, none⟩) hE.out.2.2.2.2.2 (.string b0)).other (p := ⟨gb, L * 3 + 2, none⟩) hE.out.2.2.2.2.2 (.slice q0 n0 cc0)⟩, ⟨fun h => absurd ((show f 4 = false from h).symm.trans hfs.out.1) (by decide), fun h => by
   obtain ⟨b4, e1, _⟩ := k6.out h
   exact ⟨b4, e1, fun h' => absurd ((show f 4 = false from h').symm.trans hfs.out.1) (by decide)⟩⟩, fun _ => ⟨gb, cap, hE.out.2.1, hE.out.2.2.1, fun h => absurd (show true = false from h) (by decide), fun _ => hE.out.1, fun _ => hE.out.2.2.2.1⟩⟩⟩
 simp only [Act.put]
 refine GW.open rfl (fun hd' hf => ?_) ?_
 ·obtain ⟨gb, cap, e5, e6, e7, e8, e9⟩ := k7.out (hd' 4 (by decide))
  have hOo := k3.out hf
  have r2 := hOo.cell 0 (.slice sa L sc) rfl
  have z2 := hOo.frozen 0
  have hgbo : ∀ b, base ≤ b → b ≠ Bk := fun b hb => by have := hbB.out; omega
  have hoc : ∀ {xs : List Value}, y.ownsRow base 78 3 (g' 4) (L + 1) xs → (y.setCell ⟨Bk, 0, none⟩ (g' 4)).ownsRow base 78 3 (g' 4) (L + 1) xs := fun h => owns_cells h (fun b o hb ho _ => (Below.heap_setCell y ⟨Bk, 0, none⟩ (g' 4) b (hgbo b hb)).trans ho)
  have hE := hid (show (f 6 = false → (y.setCell ⟨Bk, 0, none⟩ (.slice (some ⟨gb, 0, none⟩) (L + 1) cap)).ownsRow base 78 3 (g' 4) (L + 1) (flat3 vs ++ [.bool false, .string ⟨#[]⟩, .slice none 0 0])) ∧ (f 6 = true → (y.setCell ⟨Bk, 0, none⟩ (.slice (some ⟨gb, 0, none⟩) (L + 1) cap)).ownsRow base 78 3 (g' 4) (L + 1) (flat3 vs ++ [.bool l0, .string b0, .slice q0 n0 cc0])) ∧ (f 5 = true → g' 5 = .pointer (some ⟨gb, L * 3, none⟩)) ∧ g' 4 = .slice (some ⟨gb, 0, none⟩) (L + 1) cap from ⟨fun h => by have := hoc (e7 h); rw [e5] at this ⊢; exact this, fun h => by have := hoc (e8 h); rw [e5] at this ⊢; exact this, e9, e5⟩)
  have hSO := hid (hOo.set 0 (.slice (some ⟨gb, 0, none⟩) (L + 1) cap))
  have hxo := hid (show bx ≠ Bk from hgbo bx hrest.out.2.2.2.2.2.2.1)
  have hfs := hid (And.intro (hd' 4 (by decide)) e6)
  rw [show g' (0 + 1 + 1 + 1 + 1) = .slice (some ⟨gb, 0, none⟩) (L + 1) cap from e5]
  clear e5 e6 e7 e8 e9 hOo hoc hf hd' hgbo
  go_wp2
  exact ⟨rfl, ⟨⟨k1.out.set (p := ⟨Bk, 0, none⟩) (.inl rfl) _, k2.out.other (p := ⟨Bk, 0, none⟩) hxo.out _⟩, ⟨fun h => absurd (show true = false from h) (by decide), fun _ => by
   show Has _ Bk _ #[g' 4]
   rw [hE.out.2.2.2]; exact hSO.out⟩, ⟨fun h => absurd ((show f 4 = false from h).symm.trans hfs.out.1) (by decide), fun h => by
   obtain ⟨b4, e1, _⟩ := k6.out h
   exact ⟨b4, e1, fun h' => absurd ((show f 4 = false from h').symm.trans hfs.out.1) (by decide)⟩⟩, fun _ => ⟨gb, cap, hE.out.2.2.2, hfs.out.2, hE.out.1, hE.out.2.1, hE.out.2.2.1⟩⟩⟩
 simp only [Act.put]
 refine GW.nil (fun hall => ?_)
 obtain ⟨gb, cap', e5, e6, e7, e8, e9⟩ := k7.out (hall 4 (by decide))
 have hown := e8 (hall 6 (by decide))
 have hO2 := k4.out (hall 7 (by decide))
 rw [e5] at hown hO2
 obtain ⟨hvs, hkids, hkid, h8, hG, hL, hbx, hnext, hkN⟩ := hrest.out
 have hT := k1.out
 have hgn : ∀ b, b < W.heap.size → Value.ownBlock (.slice sa L sc) ≠ some b → b ≠ gb := fun b h1 h2 e => by
  rcases e6 with h | h
  ·exact h2 (by rw [e]; exact h)
  ·omega
 have hkeepS : ∀ {t' : It} {v' : Value}, ItemS W (fun b => base ≤ b ∧ Value.ownBlock (.slice sa L sc) ≠ some b) t' v' → ItemS y (fun b => base ≤ b ∧ Value.ownBlock (.slice (some ⟨gb, 0, none⟩) (L + 1) cap') ≠ some b) t' v' := fun h =>
  h.keep (fun b hb hl => hT.2 b hl (by have := hbB.out; omega) hb.2) (fun b hb hl => ⟨hb.1, fun e => by injection e with e; exact hgn b hl hb.2 e.symm⟩)
 have hRow : RowK y base (.slice (some ⟨gb, 0, none⟩) (L + 1) cap') (acc ++ [item x]) := by
  refine ⟨vs ++ [(.bool l0, .string b0, .slice q0 n0 cc0)], by simp [hvs, hL], ?_, fun j k' v hj hv => ?_⟩
  ·rw [flat3_append, show (acc ++ [item x]).length = L + 1 by simp [hL]]
   exact hown
  ·by_cases hjl : j < L
   ·rw [List.getElem?_append_left (by omega)] at hj hv
    exact hkeepS (hkids j k' v hj hv)
   ·have hj2 : j = L := by
     have := (List.getElem?_eq_some_iff.1 hj).1
     simp [hL] at this
     omega
    subst hj2
    rw [List.getElem?_append_right (by omega)] at hj hv
    simp [hL] at hj
    simp [hvs] at hv
    subst hj hv
    exact hkeepS hkid
 have hsame : ∀ b, b < W.heap.size → b ≠ Bk → b < base → y.heap[b]? = W.heap[b]? := fun b h1 h2 h3 => hT.2 b h1 h2 (fun e => by
  have := rowblock kV.out e; omega)
 have hres : roundN w3.heap.size (KpB w.heap.size [Ws, Ws + 1]) (fun k W => LsSt item l w w.heap.size Bk base k W) (fun _ _ _ => False) k W .normal { tmps := #[], defers := [] } y := by
  have hb4 := HBS.out
  have hbw := hbW.out
  have hyb : Below w.heap.size W y := ⟨hT.1.1, hT.1.2.1, hT.1.2.2.1, hT.1.2.2.2, fun b hb => hsame b (by omega) (by omega) (by omega)⟩
  refine ⟨⟨hT.1.2.2.2, fun b o hb ho hc => (hT.2 b (Array.getElem?_eq_some_iff.1 ho).1 (by omega) (fun e => ?_)).trans ho⟩, ⟨hyb, fun b hb => hsame b (by simp at hb; omega) (by simp at hb; omega) (by simp at hb; omega)⟩, _, (hsame _ h8.lt (by omega) (by omega)).trans h8, hO2, by rw [hnext]; exact hRow, hG.trans hyb, Nat.le_trans hbw hT.1.2.2.2⟩
  obtain ⟨_, cs, hcs⟩ := rowcells kV.out e
  rw [ho] at hcs
  cases hcs
  cases hc
 have HRES := hid hres
 clear hres hRow hkeepS hsame hgn hown hO2 e5 e6 e7 e8 e9 hT hvs hkids hkid h8 hG hL hbx hnext k1 k2 k3 k4 k5 k6 k7 c0 c1 c2 hall Dn
 generalize g' 3 = g3 at *
 generalize g' 4 = g4 at *
 generalize g' 5 = g5 at *
 generalize g' 6 = g6 at *
 generalize g' 7 = g7 at *
 exact HRES.out
theorem items_sl (W : World) (a : Option Addr) (n cap : Nat) :
  Calls Tryz.prog 103 #[.slice a n cap, .func (.func 75) #[] #[]] W fun e w' => e = .returned (.func (.func 129) #[] #[.pointer (some ⟨W.heap.size, 0, none⟩), .pointer (some ⟨W.heap.size + 1, 0, none⟩)]) ∧ w' = (W.alloc (.cells #[.slice a n cap] 29)).alloc (.cells #[.func (.func 75) #[] #[]] 110) := by
 go_enter Tryz.func103, Tryz.ntmps103
 go_wp2_with fail
 go_ret
 exact ⟨rfl, rfl⟩
theorem slist_any (a : Option Addr) (cap N : Nat) (l : List Sl) (hN : l.length = N) (w : World) (hs : SlotsAt w (.slice a N cap) l) (hlen : N ≤ 1000000) :
  Calls Tryz.prog 74 #[.slice a N cap, .func (.func 75) #[] #[]] w (MadeI (.mk true ⟨#[]⟩ (l.map slotI)) w) := by
 have hmx : Tryz.prog.follows .mixedOrders = true := by kernel_rfl
 refine (callsIn_wide (n := 8)).1 ?_
 refine callsIn_of_wp_marks Tryz.func74 rfl trivial ?_ rfl
 simp only [Tryz.ntmps74, List.size_toArray, List.length_cons, List.length_nil, Nat.reduceAdd, Nat.reduceSub, Array.replicate_succ, Array.replicate_zero, List.push_toArray, List.append_toArray, List.nil_append, List.cons_append]
 have h10 := Has.new w 78 #[.bool false, .string ⟨#[]⟩, .slice none 0 0]
 have q1 := newA w (.cells #[.bool false, .string ⟨#[]⟩, .slice none 0 0] 78)
 have hz1 : (w.alloc (.cells #[.bool false, .string ⟨#[]⟩, .slice none 0 0] 78)).heap.size = w.heap.size + 1 := by rw [World.size_alloc]
 obtain ⟨W1, hW1⟩ : ∃ W1, w.alloc (.cells #[.bool false, .string ⟨#[]⟩, .slice none 0 0] 78) = W1 := ⟨_, rfl⟩
 rw [hW1] at h10 q1 hz1
 have h21 := Has.new W1 76 #[.slice none 0 0]
 have q2 := newA W1 (.cells #[.slice none 0 0] 76)
 have hz2 : (W1.alloc (.cells #[.slice none 0 0] 76)).heap.size = W1.heap.size + 1 := by rw [World.size_alloc]
 obtain ⟨W2, hW2⟩ : ∃ W2, W1.alloc (.cells #[.slice none 0 0] 76) = W2 := ⟨_, rfl⟩
 rw [hW2] at h21 q2 hz2
 have h20 := h10.later q2
 have Q2 := hid (q1.trans (q2.mono q1.size))
 have H20 := hid h20
 have H21 := hid h21
 have HZ := hid (And.intro hz1 hz2)
 have HS := hid hs
 have HN := hid (And.intro hN hlen)
 clear h10 q1 h21 q2 h20 hz1 hz2 hs hN hlen
 gi_wp2_with fail
 refine (callsIn_free free_wide (items_sl W2 a N cap)).mono ?_
 rintro _ w3 ⟨rfl, hw3⟩
 have q3 : Below W2.heap.size W2 w3 := by rw [hw3]; exact ((Below.refl W2.heap.size W2).alloc (Nat.le_refl _) _).alloc (by simp) _
 have h30 : Has w3 W2.heap.size 29 #[.slice a N cap] := by rw [hw3]; exact (Has.new W2 29 #[.slice a N cap]).alloc _
 have h31 : Has w3 (W2.heap.size + 1) 110 #[.func (.func 75) #[] #[]] := by
  have := Has.new (W2.alloc (.cells #[.slice a N cap] 29)) 110 #[.func (.func 75) #[] #[]]
  rw [World.size_alloc] at this
  rw [hw3]; exact this
 have hz3 : w3.heap.size = W2.heap.size + 2 := by rw [hw3, World.size_alloc, World.size_alloc]
 have Q3 := hid (Q2.out.trans (q3.mono Q2.out.size))
 have H30 := hid (H20.out.later q3)
 have H31 := hid (H21.out.later q3)
 have HB1 := hid h30
 have HB2 := hid h31
 obtain ⟨base, hbase⟩ : ∃ base, w3.heap.size = base := ⟨_, rfl⟩
 have HBS := hid (show W1.heap.size = w.heap.size + 1 ∧ W2.heap.size = W1.heap.size + 1 ∧ base = W2.heap.size + 2 ∧ w3.heap.size = base from ⟨HZ.out.1, HZ.out.2, by omega, hbase⟩)
 clear q3 h30 h31 hz3 hw3 hW1 hW2 hbase
 obtain ⟨Bk, hBk⟩ : ∃ Bk, W1.heap.size = Bk := ⟨_, rfl⟩
 rw [hBk] at H21 H31 HBS ⊢
 clear hBk H20 H21 HZ
 gi_wp2_with fail
 refine wpIn_rangeFunc_D rfl (by omega) (gf := 129) (lb := #[.pointer (some ⟨W2.heap.size, 0, none⟩), .pointer (some ⟨W2.heap.size + 1, 0, none⟩)]) rfl trivial (enters_of Tryz.func129 (by kernel_rfl) rfl)
  (sitems_seq _ a cap N l HN.out.1 W2.heap.size (W2.heap.size + 1) w w3 HS.out HN.out.2 Q3.out HB1.out HB2.out)
  (fun _ _ _ _ _ _ _ => trivial) (fun A X h b o ho _ => (h.block b (Array.getElem?_eq_some_iff.1 ho).1).trans ho) KpB.trans (KpB.b Q3.out.size (by intro b hb; simp at hb; have := HBS.out; omega)) (fun k args A W hk hE => by
   obtain ⟨x, v, _, rfl, _⟩ := hE
   rfl)
  (fun k W => LsSt slotI l w w.heap.size Bk base k W) (fun _ _ _ => False) (LsSt.own Q3.out.size) (fun c k A X row hs hg hr => hs) (fun k A X hs h => hs.sj h) (fun c k A X hs h => hs)
  ⟨_, H30.out, H31.out, RowK.nil _ _, Q3.out, by have := HBS.out; omega⟩
  (fun k a' V => ∃ x sv bx u0 u1 u2, l[k]? = some x ∧ (Has V Bk 76 #[sv] ∧ Has V bx 78 #[u0, u1, u2] ∧ base ≤ bx ∧ sv.ownBlock ≠ some bx) ∧ ItemS V (fun b => base ≤ b ∧ sv.ownBlock ≠ some b) (slotI x) (.agg #[u0, u1, u2]) ∧ a' = { tmps := #[.slice a N cap, .func (.func 75) #[] #[], undef, undef, .pointer (some ⟨w.heap.size, 0, none⟩), .pointer (some ⟨Bk, 0, none⟩), .pointer (some ⟨bx, 0, none⟩), .slice a N cap, .func (.func 75) #[] #[], .func (.func 129) #[] #[.pointer (some ⟨W2.heap.size, 0, none⟩), .pointer (some ⟨W2.heap.size + 1, 0, none⟩)], .agg #[u0, u1, u2], undef, undef, undef, undef, undef, undef, undef, undef], defers := [] })
  (fun k a' _ X Y row hs hg hr => by
   obtain ⟨x, sv, bx, u0, u1, u2, h1, ⟨h2, h3, h4, h5⟩, h6, e⟩ := hs
   exact ⟨x, sv, bx, u0, u1, u2, h1, ⟨h2.ownR hg (fun r e => (hr r e).2), h3.ownR hg (fun r e => (hr r e).2), h4, h5⟩, h6.keepC (fun b o _ ho hc => keeps_own hg (fun r e => (hr r e).2) b o ho hc) (fun b hb _ => hb), e⟩) ?assign ?body ?done ?stop
 case assign =>
  intro ll k args A W K hll hkN hstA hsj hst hE hK
  obtain ⟨x, v, hx, rfl, hI⟩ := hE
  obtain ⟨sv, _, g2, g3, g4, g5⟩ := hstA
  have hO := g2.later hsj
  have hblk : ∀ g, sv.ownBlock = some g → g < A.heap.size := fun g e => by
   obtain ⟨_, cs, h⟩ := g3.block e
   exact (Array.getElem?_eq_some_iff.1 h).1
  have hI2 : ItemS W (fun b => base ≤ b ∧ sv.ownBlock ≠ some b) (slotI x) v := hI.mono (fun b hb _ => ⟨Nat.le_trans g5 hb, fun e => by have := hblk b e; omega⟩)
  obtain ⟨ia, ic, rfl, _⟩ := hI2.open
  have HK := hid hK
  have HI := hid hI2
  have HST := hid hst
  have HO := hid hO
  have HX := hid hx
  have HBLK := hid hblk
  have HSZ := hid (show base ≤ W.heap.size ∧ A.heap.size ≤ W.heap.size ∧ w.heap.size ≤ W.heap.size from ⟨Nat.le_trans g5 hsj.size, hsj.size, Nat.le_trans g4.size hsj.size⟩)
  clear hK hI hI2 hst hO hx hblk g2 g3 g4 g5 hsj
  generalize (slotI x).list = l0 at *
  generalize (slotI x).bytes = b0 at *
  generalize (slotI x).kids.length = n0 at *
  have NX := Has.new W 78 #[.bool false, .string ⟨#[]⟩, .slice none 0 0]
  have x0 := NX.cell 0 _ rfl
  have x1 := NX.cell 1 _ rfl
  have x2 := NX.cell 2 _ rfl
  have f0 := NX.frozen 0
  have f1 := NX.frozen 1
  have f2 := NX.frozen 2
  replace NX := hid NX
  gi_wp2_with fail
  have hg := newA W (.cells #[.bool l0, .string b0, .slice ia n0 ic] 78)
  refine HK.out _ _ ((KeepsOthers.alloc _ _).from _) ⟨hg.mono HSZ.out.2.2, fun b hb => hg.block b (by simp at hb; have := HBS.out; have := HSZ.out; omega)⟩ (HST.out.sj hg) ⟨x, sv, W.heap.size, _, _, _, HX.out, ⟨HO.out.later hg, Has.new _ _ _, HSZ.out.1, fun e => by have := HBLK.out _ e; have := HSZ.out; omega⟩, HI.out.later hg, rfl⟩
 case body =>
  rintro ll k a' W hl hlo hkN hst ⟨x, sv, bx, u0, u1, u2, hx, h4, hkid, rfl⟩
  exact list_body slotI l w w3 W2.heap.size Bk base N HBS.out HN.out _ ll k _ _ _ _ _ W hkN hst x sv bx u0 u1 u2 hx h4 hkid
 case stop => rintro D c k W hD hk hf; exact hf.elim
 case done =>
  rintro D W hD hst _ hK
  obtain ⟨sv, h8, hO, hV, hG, hbW⟩ := hst
  have hks : (l.take N).map slotI = l.map slotI := by rw [List.take_of_length_le (by have := HN.out; omega)]
  have hkl : (l.map slotI).length ≤ 1099511627776 := by rw [List.length_map]; have := HN.out; omega
  rw [hks] at hV
  obtain ⟨ks, hks2⟩ : ∃ ks, l.map slotI = ks := ⟨_, rfl⟩
  rw [hks2] at hV hkl
  have HKS := hid hks2
  obtain ⟨sa, sc, rfl⟩ := hV.shape
  have hIt := (hV.item hkl).at.open
  have hKI : KidsIn W ks sa := by
   obtain ⟨a2, c2, e, _, _, hk⟩ := hIt
   injection e with e
   injection e with e
   injection e with _ e
   injection e with _ e
   injection e with e _
   injection e with e _ _
   subst e
   exact hk
  have k0 := hO.cell 0 _ rfl
  have HL := hid (list_any ks sa sc W hKI hkl)
  have HR := hid h8
  have QD := hid hG
  have HK := hid hK
  have HD := hid (Nat.le_trans (by have := HBS.out; omega : w.heap.size + 1 ≤ w3.heap.size) hD)
  have HDW := hid (show D < W.heap.size from (Array.getElem?_eq_some_iff.1 hK).1)
  clear hK hKI hIt hV hkl hks hks2 h8 hG hO hbW
  gi_wp2_with fail
  refine (callsIn_free free_wide HL.out).mono ?_
  rintro _ w5 ⟨a5, c5, rfl, hI, q5⟩
  have h6 := HR.out.later q5
  have c60 := h6.cell 0 _ rfl
  have c61 := h6.cell 1 _ rfl
  have c62 := h6.cell 2 _ rfl
  have f60 := h6.frozen 0
  have f61 := h6.frozen 1
  have f62 := h6.frozen 2
  have h7 := ((h6.set 0 (.bool true)).set 1 (.string ⟨#[]⟩)).set 2 (.slice a5 ks.length c5)
  have hO := (((OnlyB.refl w5 w.heap.size).setCell 0 (.bool true)).setCell 1 (.string ⟨#[]⟩)).setCell 2 (.slice a5 ks.length c5)
  obtain ⟨w7, hw7⟩ : ∃ w7, ((w5.setCell ⟨w.heap.size, 0, none⟩ (.bool true)).setCell ⟨w.heap.size, 1, none⟩ (.string ⟨#[]⟩)).setCell ⟨w.heap.size, 2, none⟩ (.slice a5 ks.length c5) = w7 := ⟨_, rfl⟩
  rw [hw7] at h7 hO
  have hDne : D ≠ w.heap.size := by have := HD.out; omega
  have hK7 := hid ((hO.2.2 D hDne).trans ((q5.block D HDW.out).trans HK.out))
  have H7 := hid h7
  have Q7 := (QD.out.trans (q5.mono QD.out.size)).trans (hO.1.mono (Nat.le_refl _))
  have HDN := hid hDne
  have QF := hid (show Below w.heap.size w (w7.putObj D (.deferred none)) from Q7.trans ⟨rfl, rfl, rfl, by simp, fun k hk => World.putObj_heap_other (by have := HD.out; omega)⟩)
  have HF := hid (show Has (w7.putObj D (.deferred none)) w.heap.size 78 #[.bool true, .string ⟨#[]⟩, .slice a5 ks.length c5] from (World.putObj_heap_other (fun e => HDN.out e.symm)).trans H7.out)
  have HI := hid (hI.keep (X := w7.putObj D (.deferred none)) (T := fun b => w.heap.size ≤ b) (fun b hb _ => (World.putObj_heap_other (by have := HDW.out; omega)).trans (hO.2.2 b (by have := HR.out.lt; omega))) (fun b hb _ => Nat.le_trans QD.out.size hb))
  clear h6 h7 hO hDne hI q5 HL Q7
  gi_wp2_with fail
  try rw [hw7]
  refine ⟨by simp, .inl ⟨_, _, rfl, run_takeDeferred hK7.out, ?_⟩⟩
  have y0 := HF.out.cell 0 _ rfl
  have y1 := HF.out.cell 1 _ rfl
  have y2 := HF.out.cell 2 _ rfl
  exact ⟨.agg #[.bool true, .string ⟨#[]⟩, .slice a5 ks.length c5], by simp [results, Tryz.results74, go_sem, y0, y1, y2], _, rfl, by rw [HKS.out]; exact HI.out, QF.out⟩
def adT (n : Nat) : ByteArray := ⟨(lowB 20 n).toArray⟩
def acI (x : Ac) : It := .mk true ⟨#[]⟩ [txtI (adT x.at_), numI (ofN x.non), numI x.bal, txtI x.code, .mk true ⟨#[]⟩ (x.slots.map slotI)]
theorem adT_size (n : Nat) : (adT n).size = 20 := by show (lowB 20 n).toArray.size = 20; rw [List.size_toArray, lowB_len]
theorem conv_ad (W : World) (B n : Nat) (h : ∀ i, i < 20 → W.cell? ⟨B, i, none⟩ = some (.int .u8 ((adB n i : Nat) : Int))) : (convert 97 9 (.slice (some ⟨B, 0, none⟩) 20 20)).run Tryz.prog W = .ok (.string (adT n)) W := by
 have := run_convert_bytes_arg (P := Tryz.prog) W 97 5 Tryz.underlying97 Tryz.underlying5 B 0 20 20 ((lowB 20 n).map fun b => (b.toNat : Int)) (by simp [lowB_len]) (fun i hi => by
  rw [Nat.zero_add, h i hi, List.getD_eq_getElem?_getD, List.getElem?_map, lowB_at 20 n i hi]
  have e : (UInt8.ofNat (n / 256 ^ (20 - 1 - i) % 256)).toNat = adB n i := by
   rw [UInt8.toNat_ofNat']
   show n / 256 ^ (19 - i) % 256 % 256 = _
   rw [Nat.mod_mod]; rfl
  simp only [Option.map_some, Option.getD_some, e]) 9 Tryz.underlying9
 rw [strOf_list] at this
 exact this
theorem accountItem_any (x : Ac) (sv : Value) (hx : AcOk x) (w : World) (hs : SlotsAt w sv x.slots) (hlen : x.slots.length ≤ 1000000) :
  Calls Tryz.prog 47 #[.agg (acC x sv)] w (MadeI (acI x) w) := by
 have hmx : Tryz.prog.follows .mixedOrders = true := by kernel_rfl
 obtain ⟨sa, sc, rfl, _, _⟩ := hs.shape
 obtain ⟨N, hN⟩ : ∃ N, x.slots.length = N := ⟨_, rfl⟩
 rw [hN] at hs hlen ⊢
 have LX := (Has.new w 31 (acC x (.slice sa N sc))).alloc (.cells #[.bool false, .string ⟨#[]⟩, .slice none 0 0] 78)
 have LR := Has.new (w.alloc (.cells (acC x (.slice sa N sc)) 31)) 78 #[.bool false, .string ⟨#[]⟩, .slice none 0 0]
 simp only [World.size_alloc] at LR
 have Q := (newA w (.cells (acC x (.slice sa N sc)) 31)).alloc (by simp) (.cells #[.bool false, .string ⟨#[]⟩, .slice none 0 0] 78)
 have hGoal : ∀ (d0 d1 d2 d3 : ByteArray) ks, adT x.at_ = d0 → (⟨(digs (ofN x.non)).toArray⟩ : ByteArray) = d1 → (⟨(digs x.bal).toArray⟩ : ByteArray) = d2 → x.code = d3 → x.slots.map slotI = ks → acI x = .mk true ⟨#[]⟩ [txtI d0, txtI d1, txtI d2, txtI d3, .mk true ⟨#[]⟩ ks] := fun d0 d1 d2 d3 ks h0 h1 h2 h3 h4 => by rw [← h0, ← h1, ← h2, ← h3, ← h4]; rfl
 have hN1 := number_ret (ofN x.non) (ofN_lt x.non hx.non)
 have hN2 := number_ret x.bal hx.bal
 have hO := of_ret x.non hx.non
 have hd0 : (adT x.at_).size ≤ 140737488355328 := by rw [adT_size]; omega
 have hd1 := digs_size (ofN x.non) (ofN_lt x.non hx.non)
 have hd2 := digs_size x.bal hx.bal
 have hd3 := hx.code
 have hT0 : Ret Tryz.prog 71 #[.string (adT x.at_)] (.agg #[.bool false, .string (adT x.at_), .slice none 0 0]) := fun w => text_any _ w
 have hT3 : Ret Tryz.prog 71 #[.string x.code] (.agg #[.bool false, .string x.code, .slice none 0 0]) := fun w => text_any _ w
 unfold wv at hO
 unfold wv txtV strV at hN1 hN2
 obtain ⟨W0, hW0⟩ : ∃ W0, (w.alloc (.cells (acC x (.slice sa N sc)) 31)).alloc (.cells #[.bool false, .string ⟨#[]⟩, .slice none 0 0] 78) = W0 := ⟨_, rfl⟩
 rw [hW0] at LX LR Q
 have HC : ∀ X : Ext W0, (convert 97 9 (.slice (some ⟨w.heap.size, 0, none⟩) 20 20)).run Tryz.prog X.w = .ok (.string (adT x.at_)) X.w := fun X => conv_ad X.w w.heap.size x.at_ (fun i hi => (LX.later X.below).cell i _ (by rw [acC, List.getElem?_toArray]; exact acL_at x _ i hi))
 have k0 : ∀ X : Ext W0, X.w.cell? ⟨w.heap.size, 20, none⟩ = some (.int .u64 (lim x.bal 0)) := fun X => (LX.later X.below).acc.1
 have k1 : ∀ X : Ext W0, X.w.cell? ⟨w.heap.size, 21, none⟩ = some (.int .u64 (lim x.bal 1)) := fun X => (LX.later X.below).acc.2.1
 have k2 : ∀ X : Ext W0, X.w.cell? ⟨w.heap.size, 22, none⟩ = some (.int .u64 (lim x.bal 2)) := fun X => (LX.later X.below).acc.2.2.1
 have k3 : ∀ X : Ext W0, X.w.cell? ⟨w.heap.size, 23, none⟩ = some (.int .u64 (lim x.bal 3)) := fun X => (LX.later X.below).acc.2.2.2.1
 have k4 : ∀ X : Ext W0, X.w.cell? ⟨w.heap.size, 24, none⟩ = some (.int .i64 x.non) := fun X => (LX.later X.below).acc.2.2.2.2.1
 have k5 : ∀ X : Ext W0, X.w.cell? ⟨w.heap.size, 25, none⟩ = some (.string x.code) := fun X => (LX.later X.below).acc.2.2.2.2.2.1
 have k6 : ∀ X : Ext W0, X.w.cell? ⟨w.heap.size, 26, none⟩ = some (.slice sa N sc) := fun X => (LX.later X.below).acc.2.2.2.2.2.2
 have hsl : ∀ X : World, Below w.heap.size w X → Calls Tryz.prog 74 #[.slice sa N sc, .func (.func 75) #[] #[]] X (MadeI (.mk true ⟨#[]⟩ (x.slots.map slotI)) X) := fun X hX => slist_any sa sc N x.slots hN X (hs.later hX) hlen
 have hkl : (x.slots.map slotI).length ≤ 1099511627776 := by rw [List.length_map]; omega
 obtain ⟨d0, e0⟩ : ∃ d, adT x.at_ = d := ⟨_, rfl⟩
 obtain ⟨d1, e1⟩ : ∃ d, (⟨(digs (ofN x.non)).toArray⟩ : ByteArray) = d := ⟨_, rfl⟩
 obtain ⟨d2, e2⟩ : ∃ d, (⟨(digs x.bal).toArray⟩ : ByteArray) = d := ⟨_, rfl⟩
 obtain ⟨d3, e3⟩ : ∃ d, x.code = d := ⟨_, rfl⟩
 obtain ⟨ks, e4⟩ : ∃ ks, x.slots.map slotI = ks := ⟨_, rfl⟩
 rw [hGoal d0 d1 d2 d3 ks e0 e1 e2 e3 e4]
 rw [e0] at HC hT0 hd0
 rw [e1] at hN1 hd1
 rw [e2] at hN2 hd2
 rw [e3] at k5 hT3 hd3
 rw [e4] at hsl hkl
 clear hGoal e0 e1 e2 e3 e4 hs hN hx
 generalize acC x (.slice sa N sc) = cx at *
 generalize lim x.bal 0 = a0 at *
 generalize lim x.bal 1 = a1 at *
 generalize lim x.bal 2 = a2 at *
 generalize lim x.bal 3 = a3 at *
 generalize lim (ofN x.non) 0 = o0 at *
 generalize lim (ofN x.non) 1 = o1 at *
 generalize lim (ofN x.non) 2 = o2 at *
 generalize lim (ofN x.non) 3 = o3 at *
 generalize x.non = no at *
 replace LX := hid LX
 replace LR := hid LR
 replace Q := hid Q
 replace hN1 := hid hN1
 replace hN2 := hid hN2
 replace hO := hid hO
 replace hT0 := hid hT0
 replace hT3 := hid hT3
 replace hd0 := hid hd0
 replace hd1 := hid hd1
 replace hd2 := hid hd2
 replace hd3 := hid hd3
 replace hsl := hid hsl
 replace hkl := hid hkl
 clear hlen
 go_enter Tryz.func47, Tryz.ntmps47
 go_wp2_with fail
 try rw [hW0]
 clear hW0
 refine wp_region_mix (C := Grows W0) [some true, some true, some true, some true, some true, some true, some true, some true, some true, some true, some true, some true, some true, some true, some true, some true, none, none, none, none] hmx (by kernel_rfl) (by kernel_rfl) (grows_refl W0) ?_
 simp only [headOf, tailOf]
 repeat (go_big_quiet_step (first | (with_reducible exact Ret.at hN1.out _) | (with_reducible exact Ret.at hN2.out _) | (with_reducible exact Ret.at hO.out _) | (with_reducible exact Ret.at hT0.out _) | (with_reducible exact Ret.at hT3.out _)))
 refine wpQuiet_nil ?_
 rintro _ ⟨X, rfl⟩
 clear k0 k1 k2 k3 k4 k5 k6 LX HC hN1 hN2 hO hT0 hT3
 have HR := hid (LR.out.later X.below)
 have HQ := hid (Q.out.trans (X.below.mono Q.out.size))
 obtain ⟨Z, hZ⟩ : ∃ Z, X.w = Z := ⟨_, rfl⟩
 rw [hZ] at HR HQ
 have HSL := hid (hsl.out Z HQ.out)
 clear hsl LR Q
 rw [hZ]
 clear hZ
 go_wp2_with fail
 refine HSL.out.mono ?_
 rintro _ Z1 ⟨v, rfl, hI, q1⟩
 obtain ⟨ia, ic, rfl, _, _, _⟩ := hI.open
 have HR1 := hid (HR.out.later q1)
 have HQ1 := hid (HQ.out.trans (q1.mono HQ.out.size))
 have hIA := hI.at
 simp only [It.list, It.bytes, It.kids] at hI hIA ⊢
 obtain ⟨n5, hn5⟩ : ∃ n5, ks.length = n5 := ⟨_, rfl⟩
 rw [hn5] at hIA ⊢
 obtain ⟨Z3, hZ3, N3, q3⟩ := newBox Z1 78 #[.bool false, .string d0, .slice none 0 0, .bool false, .string d1, .slice none 0 0, .bool false, .string d2, .slice none 0 0, .bool false, .string d3, .slice none 0 0, .bool true, .string ⟨#[]⟩, .slice ia n5 ic]
 have hlast : ItemS Z3 (fun _ => True) (.mk true ⟨#[]⟩ ks) (.agg #[.bool true, .string ⟨#[]⟩, .slice ia n5 ic]) := by
  have := (hI.later q3).mono (T := fun _ => True) (fun _ _ _ => trivial)
  rw [hn5] at this
  exact this
 have hL0 := list_any [txtI d0, txtI d1, txtI d2, txtI d3, .mk true ⟨#[]⟩ ks] (some ⟨Z1.heap.size, 0, none⟩) 5 Z3 (KidsInS.at (S := fun _ => True) (.inr ⟨_, _, rfl, trivial, ⟨_, _, _, N3.cell 0 _ rfl, N3.cell 1 _ rfl, N3.cell 2 _ rfl, txtS d0 hd0.out⟩, ⟨_, _, _, N3.cell 3 _ rfl, N3.cell 4 _ rfl, N3.cell 5 _ rfl, txtS d1 hd1.out⟩, ⟨_, _, _, N3.cell 6 _ rfl, N3.cell 7 _ rfl, N3.cell 8 _ rfl, txtS d2 hd2.out⟩, ⟨_, _, _, N3.cell 9 _ rfl, N3.cell 10 _ rfl, N3.cell 11 _ rfl, txtS d3 hd3.out⟩, ⟨_, _, _, N3.cell 12 _ rfl, N3.cell 13 _ rfl, N3.cell 14 _ rfl, hlast⟩, trivial⟩)) (by simp)
 simp only [List.length_cons, List.length_nil, Nat.reduceAdd] at hL0
 have HL := hid hL0
 have HR3 := hid (HR1.out.later q3)
 have HQ3 := hid (HQ1.out.trans (q3.mono HQ1.out.size))
 clear N3 q3 HR HQ HR1 HQ1 hL0 hI hIA hlast hn5 HSL q1
 go_wp2_with fail
 try rw [hZ3]
 refine HL.out.mono ?_
 rintro _ W5 ⟨a5', c5, rfl, hI, q5⟩
 have h6 := HR3.out.later q5
 have c60 := h6.cell 0 _ rfl
 have c61 := h6.cell 1 _ rfl
 have c62 := h6.cell 2 _ rfl
 have f60 := h6.frozen 0
 have f61 := h6.frozen 1
 have f62 := h6.frozen 2
 have h7 := ((h6.set 0 (.bool true)).set 1 (.string ⟨#[]⟩)).set 2 (.slice a5' 5 c5)
 have hq7 := HQ3.out.trans (q5.mono HQ3.out.size)
 have hQ7 := hid (((hq7.setCell (p := ⟨w.heap.size + 1, 0, none⟩) (by simp) (.bool true)).setCell (p := ⟨w.heap.size + 1, 1, none⟩) (by simp) (.string ⟨#[]⟩)).setCell (p := ⟨w.heap.size + 1, 2, none⟩) (by simp) (.slice a5' 5 c5))
 have hI7 := hid (hI.keep (X := ((W5.setCell ⟨w.heap.size + 1, 0, none⟩ (.bool true)).setCell ⟨w.heap.size + 1, 1, none⟩ (.string ⟨#[]⟩)).setCell ⟨w.heap.size + 1, 2, none⟩ (.slice a5' 5 c5)) (T := fun b => w.heap.size ≤ b) (fun b hb _ => by
  have hne : b ≠ w.heap.size + 1 := by have := HR3.out.lt; omega
  exact (Below.heap_setCell _ _ _ b hne).trans ((Below.heap_setCell _ _ _ b hne).trans (Below.heap_setCell _ _ _ b hne))) (fun b hb _ => by have := HQ3.out.size; omega))
 have H7 := hid h7
 clear h7 hq7 hI h6 q5 HL
 simp only [List.length_cons, List.length_nil, Nat.reduceAdd] at H7 hQ7 hI7 ⊢
 go_wp2_with fail
 rw [calmPost_normal]
 go_wp2_with fail
 have y0 := H7.out.cell 0 _ rfl
 have y1 := H7.out.cell 1 _ rfl
 have y2 := H7.out.cell 2 _ rfl
 exact bodyPost_ret (v := .agg #[.bool true, .string ⟨#[]⟩, .slice a5' 5 c5]) (by simp [results, Tryz.results47, go_sem, y0, y1, y2]) rfl ⟨_, rfl, hI7.out, hQ7.out⟩
theorem wpListIn_loadK {P : Program} {F : Fence} {n : Nat} {ops : Array Oper} {Q : Exit → Act → World → Prop} {a : Act} {w : World} {rest : List Oper} {o : Oper} (hF : Free F) (hg : o.guard = none) (ty : TypeId) (x : Operand) (ho : o.op = .load ty x) (p : Addr) (hx : a.eval x = .pointer (some p)) (v : Value) (hr : (loadVar ty p).run P w = .ok v w)
  (h : wpListIn F n P ops Q rest (a.put o.dst v) w) : wpListIn F n P ops Q (o :: rest) a w :=
 wpListIn_plain hg fun K hK => by
  unfold Oper.wpIn
  refine ⟨fun f _ => hF.fn f, ?_⟩
  rw [Oper.semAt_eq _ _ _ (by intro c; rw [ho]; simp)]
  unfold execOp
  simp only [ho, hx, Instr.loadAt, Instr.sureAddr, Sem.run_bind, Sem.run_pure, Result.andThen_ok, hr]
  exact hK _ _ h
theorem aitems_seq (n : Nat) (a : Option Addr) (cap N : Nat) (l : List Ac) (hN : l.length = N) (b1 b2 : Nat) (w0 w : World) (hs : StAt w0 (.slice a N cap) l) (hsl : ∀ x ∈ l, x.slots.length ≤ 1000000) (hlen : N ≤ 1000000) (hb : Below w0.heap.size w0 w)
  (h1 : Has w b1 22 #[.slice a N cap]) (h2 : Has w b2 80 #[.func (.func 47) #[] #[]]) :
  SeqD Fence.wide n Tryz.prog 99 #[.pointer (some ⟨b1, 0, none⟩), .pointer (some ⟨b2, 0, none⟩)] (EItem acI l) (KpB w0.heap.size [b1, b2]) SjB (fun _ => True) N w := by
 intro ll J Jx W hW hJA hJxA hY h0
 have hmx : Tryz.prog.follows .mixedOrders = true := by kernel_rfl
 have HY := hid (fun k args A W1 hk hJ hS hE => yieldAt_anyR (m := 7) (hY k args A W1 hk hJ hS hE))
 have HS := hid hs
 have HL := hid hsl
 have HN := hid (And.intro hN hlen)
 have g1 := h1.below hW h1.lt
 have g2 := h2.below hW h2.lt
 have hB := hb.trans (hW.mono hb.size)
 have hst0 := hid (show ∃ k : Nat, k ≤ N ∧ Value.int IntKind.i64 0 = .int .i64 (k : Int) ∧ J k W ∧ Below w0.heap.size w0 W ∧ Has W b1 22 #[.slice a N cap] ∧ Has W b2 80 #[.func (.func 47) #[] #[]] from ⟨0, Nat.zero_le _, rfl, h0, hB, g1, g2⟩)
 have c0 := g1.cell 0 _ rfl
 clear hY hJA hJxA h0 hs hsl hN hlen h1 h2 hW hb g1 g2 hB
 show CallsIn _ _ _ _ _ _ (SeqZ N J Jx)
 have hfin := hid (show ∀ (X : World) k, k < N → Jx k X → SeqZ N J Jx (.returned (.tuple #[])) X from fun X k h1 h2 => ⟨⟨_, rfl⟩, .inr ⟨k, h1, h2⟩⟩)
 have hend := hid (show ∀ (X : World), J N X → SeqZ N J Jx (.returned (.tuple #[])) X from fun X h1 => ⟨⟨_, rfl⟩, .inl ⟨h1, trivial⟩⟩)
 refine callsIn_free free_wide ((callsIn_wide (n := 8)).1 ?_)
 refine callsIn_of_wp Tryz.func99 rfl trivial ?_ rfl
 simp only [Tryz.ntmps99, List.size_toArray, List.length_cons, List.length_nil, Nat.reduceAdd, Nat.reduceSub, Array.replicate_succ, Array.replicate_zero, List.push_toArray, List.append_toArray, List.nil_append, List.cons_append]
 gi_wp2_with fail
 gi_loopw [8] (fun i wr => ∃ k : Nat, k ≤ N ∧ i = .int .i64 (k : Int) ∧ J k wr ∧ Below w0.heap.size w0 wr ∧ Has wr b1 22 #[.slice a N cap] ∧ Has wr b2 80 #[.func (.func 47) #[] #[]]) (fun i _ => N - (intOf i).toNat)
 case atStart => exact hst0.out
 case round =>
  clear hst0 c0
  obtain ⟨k, hk, rfl, hJ, hB, g1, g2⟩ := hrel
  have HJ := hid hJ
  have HB := hid hB
  by_cases hkn : k < N
  ·have hknI : (k : Int) < (N : Int) := by omega
   have hk0 : (0 : Int) ≤ (k : Int) := by omega
   have hkb : (k : Int) ≤ 9223372036854775806 := by have := HN.out.2; omega
   obtain ⟨x, hx⟩ : ∃ x, l[k]? = some x := ⟨_, List.getElem?_eq_getElem (by have := HN.out.1; omega)⟩
   have hsr : StAt wr (.slice a N cap) l := HS.out.later HB.out
   obtain ⟨b, sx, rfl, ax⟩ := hsr.at hx
   obtain ⟨a', cap', rfl, _, _⟩ := ax.slots.shape
   have hl1 := ax.load
   obtain ⟨V3, hV3, h42, hq3⟩ := newK0 wr
   obtain ⟨cz, hcz⟩ : ∃ cz, acC x (.slice a' x.slots.length cap') = cz := ⟨_, rfl⟩
   have hsz : cz.size = 27 := by rw [← hcz]; exact acC_size _ _
   have h5 : Has (V3.setRow wr.heap.size cz) wr.heap.size 31 cz := setRow_heap _ _ _ _ _ _ h42
   have q := below_rowAc hq3 (g := wr.heap.size) (Nat.le_refl _) cz
   have hi5 : (Tryz.prog.info? 31).map (·.size) = some cz.size := by rw [hsz]; exact infoAc
   have ho5 : (#[.int .u8 0, .int .u8 0, .int .u8 0, .int .u8 0, .int .u8 0, .int .u8 0, .int .u8 0, .int .u8 0, .int .u8 0, .int .u8 0, .int .u8 0, .int .u8 0, .int .u8 0, .int .u8 0, .int .u8 0, .int .u8 0, .int .u8 0, .int .u8 0, .int .u8 0, .int .u8 0, .int .u64 0, .int .u64 0, .int .u64 0, .int .u64 0, .int .i64 0, .string { data := #[] }, .slice none 0 0] : Array Value).size = cz.size := by rw [hsz]; rfl
   have ha5 : cz.all (·.oneCell') = true := by rw [← hcz]; exact acC_one x (.slice a' x.slots.length cap') rfl
   rw [hcz] at hl1
   have hl6 := (show Has (V3.setRow wr.heap.size cz) wr.heap.size 31 (acC x (.slice a' x.slots.length cap')) by rw [hcz]; exact h5).accLoad
   rw [hcz] at hl6
   obtain ⟨W3, hW3⟩ : ∃ W3, V3.setRow wr.heap.size cz = W3 := ⟨_, rfl⟩
   rw [hW3] at h5 q hl6
   have HIT := hid (accountItem_any x (.slice a' x.slots.length cap') (hsr.ok hx) W3 (ax.slots.later q) (HL.out x (List.mem_of_getElem? hx)))
   rw [hcz] at HIT
   have d2 := (g2.later q).cell 0 _ rfl
   have d2r := g2.cell 0 _ rfl
   have HQ := hid q
   have G1 := hid (g1.later q)
   have G2 := hid (g2.later q)
   have HX := hid (And.intro hx hkn)
   clear hx hkn hk hsr ax h5 hq3 q g1 g2 hJ hB hsz hcz
   gi_wp2_with (first | (refine wpListIn_loadK free_wide rfl _ (.tmp 10) rfl _ rfl _ hl1 ?_) | (refine wpListIn_loadK free_wide rfl _ (.tmp 5) rfl _ rfl _ hl6 ?_) | (refine wpListIn_storeB free_wide rfl _ (.tmp 5) (.tmp 11) rfl _ _ rfl rfl _ _ h42 hi5 ho5 ha5 ?_; rw [hW3]))
   refine (callsIn_free free_wide HIT.out).mono ?_
   rintro _ W5 ⟨v, rfl, hI, q5⟩
   have G15 := hid (G1.out.later q5)
   have G25 := hid (G2.out.later q5)
   have qq := HQ.out.trans (q5.mono HQ.out.size)
   have hB5 := hid (HB.out.trans (qq.mono HB.out.size))
   obtain ⟨fn, tmps, assign, body, hy, hRd⟩ := HY.out k #[v] wr W5 HX.out.2 HJ.out qq ⟨x, v, HX.out.1, rfl, hI.mono (fun b hb _ => Nat.le_trans HQ.out.size hb)⟩
   clear hl1 h42 hi5 ho5 ha5 hl6 d2 d2r hW3 hV3 HIT G1 G2 qq hI
   gi_wp2_with fail
   refine (roundIn_anyR hRd).mono ?_
   rintro e3 W6 (⟨rfl, hJ6, hk6⟩ | ⟨rfl, hJx6⟩)
   ·have hst := hid (show J (k + 1) W6 ∧ Below w0.heap.size w0 W6 ∧ Has W6 b1 22 #[.slice (some b) N cap] ∧ Has W6 b2 80 #[.func (.func 47) #[] #[]] from ⟨hJ6, hB5.out.trans hk6.1, (hk6.2 _ (by simp)).trans G15.out, (hk6.2 _ (by simp)).trans G25.out⟩)
    clear hy hRd hk6 hJ6
    gi_wp2_with fail
    go_roundw
    case rel => exact ⟨k + 1, by have := HX.out; omega, by simp, hst.out⟩
    case measure => have := HX.out; simp [intOf]; omega
   ·have hE := hid (hfin.out _ _ HX.out.2 hJx6)
    clear hy hRd hJx6
    gi_wp2_with fail
    refine bodyPost_ret (results_none rfl _ _ _) rfl ?_
    exact hE.out
  ·obtain rfl : k = N := by omega
   have hknI : ¬ (k : Int) < (k : Int) := by omega
   clear g1 g2 hJ hB
   gi_wp2_with fail
   first | go_end0 | skip
   exact hend.out _ HJ.out
theorem items_ac (W : World) (a : Option Addr) (n cap : Nat) :
  Calls Tryz.prog 69 #[.slice a n cap, .func (.func 47) #[] #[]] W fun e w' => e = .returned (.func (.func 99) #[] #[.pointer (some ⟨W.heap.size, 0, none⟩), .pointer (some ⟨W.heap.size + 1, 0, none⟩)]) ∧ w' = (W.alloc (.cells #[.slice a n cap] 22)).alloc (.cells #[.func (.func 47) #[] #[]] 80) := by
 go_enter Tryz.func69, Tryz.ntmps69
 go_wp2_with fail
 go_ret
 exact ⟨rfl, rfl⟩
theorem alist_any (a : Option Addr) (cap N : Nat) (l : List Ac) (hN : l.length = N) (w : World) (hs : StAt w (.slice a N cap) l) (hsl : ∀ x ∈ l, x.slots.length ≤ 1000000) (hlen : N ≤ 1000000) :
  Calls Tryz.prog 46 #[.slice a N cap, .func (.func 47) #[] #[]] w (MadeI (.mk true ⟨#[]⟩ (l.map acI)) w) := by
 have hmx : Tryz.prog.follows .mixedOrders = true := by kernel_rfl
 refine (callsIn_wide (n := 8)).1 ?_
 refine callsIn_of_wp_marks Tryz.func46 rfl trivial ?_ rfl
 simp only [Tryz.ntmps46, List.size_toArray, List.length_cons, List.length_nil, Nat.reduceAdd, Nat.reduceSub, Array.replicate_succ, Array.replicate_zero, List.push_toArray, List.append_toArray, List.nil_append, List.cons_append]
 have h10 := Has.new w 78 #[.bool false, .string ⟨#[]⟩, .slice none 0 0]
 have q1 := newA w (.cells #[.bool false, .string ⟨#[]⟩, .slice none 0 0] 78)
 have hz1 : (w.alloc (.cells #[.bool false, .string ⟨#[]⟩, .slice none 0 0] 78)).heap.size = w.heap.size + 1 := by rw [World.size_alloc]
 obtain ⟨W1, hW1⟩ : ∃ W1, w.alloc (.cells #[.bool false, .string ⟨#[]⟩, .slice none 0 0] 78) = W1 := ⟨_, rfl⟩
 rw [hW1] at h10 q1 hz1
 have h21 := Has.new W1 76 #[.slice none 0 0]
 have q2 := newA W1 (.cells #[.slice none 0 0] 76)
 have hz2 : (W1.alloc (.cells #[.slice none 0 0] 76)).heap.size = W1.heap.size + 1 := by rw [World.size_alloc]
 obtain ⟨W2, hW2⟩ : ∃ W2, W1.alloc (.cells #[.slice none 0 0] 76) = W2 := ⟨_, rfl⟩
 rw [hW2] at h21 q2 hz2
 have h20 := h10.later q2
 have Q2 := hid (q1.trans (q2.mono q1.size))
 have H20 := hid h20
 have H21 := hid h21
 have HZ := hid (And.intro hz1 hz2)
 have HS := hid hs
 have HN := hid (And.intro hN hlen)
 clear h10 q1 h21 q2 h20 hz1 hz2 hs hN hlen
 gi_wp2_with fail
 refine (callsIn_free free_wide (items_ac W2 a N cap)).mono ?_
 rintro _ w3 ⟨rfl, hw3⟩
 have q3 : Below W2.heap.size W2 w3 := by rw [hw3]; exact ((Below.refl W2.heap.size W2).alloc (Nat.le_refl _) _).alloc (by simp) _
 have h30 : Has w3 W2.heap.size 22 #[.slice a N cap] := by rw [hw3]; exact (Has.new W2 22 #[.slice a N cap]).alloc _
 have h31 : Has w3 (W2.heap.size + 1) 80 #[.func (.func 47) #[] #[]] := by
  have := Has.new (W2.alloc (.cells #[.slice a N cap] 22)) 80 #[.func (.func 47) #[] #[]]
  rw [World.size_alloc] at this
  rw [hw3]; exact this
 have hz3 : w3.heap.size = W2.heap.size + 2 := by rw [hw3, World.size_alloc, World.size_alloc]
 have Q3 := hid (Q2.out.trans (q3.mono Q2.out.size))
 have H30 := hid (H20.out.later q3)
 have H31 := hid (H21.out.later q3)
 have HB1 := hid h30
 have HB2 := hid h31
 obtain ⟨base, hbase⟩ : ∃ base, w3.heap.size = base := ⟨_, rfl⟩
 have HBS := hid (show W1.heap.size = w.heap.size + 1 ∧ W2.heap.size = W1.heap.size + 1 ∧ base = W2.heap.size + 2 ∧ w3.heap.size = base from ⟨HZ.out.1, HZ.out.2, by omega, hbase⟩)
 clear q3 h30 h31 hz3 hw3 hW1 hW2 hbase
 obtain ⟨Bk, hBk⟩ : ∃ Bk, W1.heap.size = Bk := ⟨_, rfl⟩
 rw [hBk] at H21 H31 HBS ⊢
 clear hBk H20 H21 HZ
 gi_wp2_with fail
 refine wpIn_rangeFunc_D rfl (by omega) (gf := 99) (lb := #[.pointer (some ⟨W2.heap.size, 0, none⟩), .pointer (some ⟨W2.heap.size + 1, 0, none⟩)]) rfl trivial (enters_of Tryz.func99 (by kernel_rfl) rfl)
  (aitems_seq _ a cap N l HN.out.1 W2.heap.size (W2.heap.size + 1) w w3 HS.out hsl HN.out.2 Q3.out HB1.out HB2.out)
  (fun _ _ _ _ _ _ _ => trivial) (fun A X h b o ho _ => (h.block b (Array.getElem?_eq_some_iff.1 ho).1).trans ho) KpB.trans (KpB.b Q3.out.size (by intro b hb; simp at hb; have := HBS.out; omega)) (fun k args A W hk hE => by
   obtain ⟨x, v, _, rfl, _⟩ := hE
   rfl)
  (fun k W => LsSt acI l w w.heap.size Bk base k W) (fun _ _ _ => False) (LsSt.own Q3.out.size) (fun c k A X row hs hg hr => hs) (fun k A X hs h => hs.sj h) (fun c k A X hs h => hs)
  ⟨_, H30.out, H31.out, RowK.nil _ _, Q3.out, by have := HBS.out; omega⟩
  (fun k a' V => ∃ x sv bx u0 u1 u2, l[k]? = some x ∧ (Has V Bk 76 #[sv] ∧ Has V bx 78 #[u0, u1, u2] ∧ base ≤ bx ∧ sv.ownBlock ≠ some bx) ∧ ItemS V (fun b => base ≤ b ∧ sv.ownBlock ≠ some b) (acI x) (.agg #[u0, u1, u2]) ∧ a' = { tmps := #[.slice a N cap, .func (.func 47) #[] #[], undef, undef, .pointer (some ⟨w.heap.size, 0, none⟩), .pointer (some ⟨Bk, 0, none⟩), .pointer (some ⟨bx, 0, none⟩), .slice a N cap, .func (.func 47) #[] #[], .func (.func 99) #[] #[.pointer (some ⟨W2.heap.size, 0, none⟩), .pointer (some ⟨W2.heap.size + 1, 0, none⟩)], .agg #[u0, u1, u2], undef, undef, undef, undef, undef, undef, undef, undef], defers := [] })
  (fun k a' _ X Y row hs hg hr => by
   obtain ⟨x, sv, bx, u0, u1, u2, h1, ⟨h2, h3, h4, h5⟩, h6, e⟩ := hs
   exact ⟨x, sv, bx, u0, u1, u2, h1, ⟨h2.ownR hg (fun r e => (hr r e).2), h3.ownR hg (fun r e => (hr r e).2), h4, h5⟩, h6.keepC (fun b o _ ho hc => keeps_own hg (fun r e => (hr r e).2) b o ho hc) (fun b hb _ => hb), e⟩) ?assign ?body ?done ?stop
 case assign =>
  intro ll k args A W K hll hkN hstA hsj hst hE hK
  obtain ⟨x, v, hx, rfl, hI⟩ := hE
  obtain ⟨sv, _, g2, g3, g4, g5⟩ := hstA
  have hO := g2.later hsj
  have hblk : ∀ g, sv.ownBlock = some g → g < A.heap.size := fun g e => by
   obtain ⟨_, cs, h⟩ := g3.block e
   exact (Array.getElem?_eq_some_iff.1 h).1
  have hI2 : ItemS W (fun b => base ≤ b ∧ sv.ownBlock ≠ some b) (acI x) v := hI.mono (fun b hb _ => ⟨Nat.le_trans g5 hb, fun e => by have := hblk b e; omega⟩)
  obtain ⟨ia, ic, rfl, _⟩ := hI2.open
  have HK := hid hK
  have HI := hid hI2
  have HST := hid hst
  have HO := hid hO
  have HX := hid hx
  have HBLK := hid hblk
  have HSZ := hid (show base ≤ W.heap.size ∧ A.heap.size ≤ W.heap.size ∧ w.heap.size ≤ W.heap.size from ⟨Nat.le_trans g5 hsj.size, hsj.size, Nat.le_trans g4.size hsj.size⟩)
  clear hK hI hI2 hst hO hx hblk g2 g3 g4 g5 hsj
  generalize (acI x).list = l0 at *
  generalize (acI x).bytes = b0 at *
  generalize (acI x).kids.length = n0 at *
  have NX := Has.new W 78 #[.bool false, .string ⟨#[]⟩, .slice none 0 0]
  have x0 := NX.cell 0 _ rfl
  have x1 := NX.cell 1 _ rfl
  have x2 := NX.cell 2 _ rfl
  have f0 := NX.frozen 0
  have f1 := NX.frozen 1
  have f2 := NX.frozen 2
  replace NX := hid NX
  gi_wp2_with fail
  have hg := newA W (.cells #[.bool l0, .string b0, .slice ia n0 ic] 78)
  refine HK.out _ _ ((KeepsOthers.alloc _ _).from _) ⟨hg.mono HSZ.out.2.2, fun b hb => hg.block b (by simp at hb; have := HBS.out; have := HSZ.out; omega)⟩ (HST.out.sj hg) ⟨x, sv, W.heap.size, _, _, _, HX.out, ⟨HO.out.later hg, Has.new _ _ _, HSZ.out.1, fun e => by have := HBLK.out _ e; have := HSZ.out; omega⟩, HI.out.later hg, rfl⟩
 case body =>
  rintro ll k a' W hl hlo hkN hst ⟨x, sv, bx, u0, u1, u2, hx, h4, hkid, rfl⟩
  exact list_body acI l w w3 W2.heap.size Bk base N HBS.out HN.out _ ll k _ _ _ _ _ W hkN hst x sv bx u0 u1 u2 hx h4 hkid
 case stop => rintro D c k W hD hk hf; exact hf.elim
 case done =>
  rintro D W hD hst _ hK
  obtain ⟨sv, h8, hO, hV, hG, hbW⟩ := hst
  have hks : (l.take N).map acI = l.map acI := by rw [List.take_of_length_le (by have := HN.out; omega)]
  have hkl : (l.map acI).length ≤ 1099511627776 := by rw [List.length_map]; have := HN.out; omega
  rw [hks] at hV
  obtain ⟨ks, hks2⟩ : ∃ ks, l.map acI = ks := ⟨_, rfl⟩
  rw [hks2] at hV hkl
  have HKS := hid hks2
  obtain ⟨sa, sc, rfl⟩ := hV.shape
  have hIt := (hV.item hkl).at.open
  have hKI : KidsIn W ks sa := by
   obtain ⟨a2, c2, e, _, _, hk⟩ := hIt
   injection e with e
   injection e with e
   injection e with _ e
   injection e with _ e
   injection e with e _
   injection e with e _ _
   subst e
   exact hk
  have k0 := hO.cell 0 _ rfl
  have HL := hid (list_any ks sa sc W hKI hkl)
  have HR := hid h8
  have QD := hid hG
  have HK := hid hK
  have HD := hid (Nat.le_trans (by have := HBS.out; omega : w.heap.size + 1 ≤ w3.heap.size) hD)
  have HDW := hid (show D < W.heap.size from (Array.getElem?_eq_some_iff.1 hK).1)
  clear hK hKI hIt hV hkl hks hks2 h8 hG hO hbW
  gi_wp2_with fail
  refine (callsIn_free free_wide HL.out).mono ?_
  rintro _ w5 ⟨a5, c5, rfl, hI, q5⟩
  have h6 := HR.out.later q5
  have c60 := h6.cell 0 _ rfl
  have c61 := h6.cell 1 _ rfl
  have c62 := h6.cell 2 _ rfl
  have f60 := h6.frozen 0
  have f61 := h6.frozen 1
  have f62 := h6.frozen 2
  have h7 := ((h6.set 0 (.bool true)).set 1 (.string ⟨#[]⟩)).set 2 (.slice a5 ks.length c5)
  have hO := (((OnlyB.refl w5 w.heap.size).setCell 0 (.bool true)).setCell 1 (.string ⟨#[]⟩)).setCell 2 (.slice a5 ks.length c5)
  obtain ⟨w7, hw7⟩ : ∃ w7, ((w5.setCell ⟨w.heap.size, 0, none⟩ (.bool true)).setCell ⟨w.heap.size, 1, none⟩ (.string ⟨#[]⟩)).setCell ⟨w.heap.size, 2, none⟩ (.slice a5 ks.length c5) = w7 := ⟨_, rfl⟩
  rw [hw7] at h7 hO
  have hDne : D ≠ w.heap.size := by have := HD.out; omega
  have hK7 := hid ((hO.2.2 D hDne).trans ((q5.block D HDW.out).trans HK.out))
  have H7 := hid h7
  have Q7 := (QD.out.trans (q5.mono QD.out.size)).trans (hO.1.mono (Nat.le_refl _))
  have HDN := hid hDne
  have QF := hid (show Below w.heap.size w (w7.putObj D (.deferred none)) from Q7.trans ⟨rfl, rfl, rfl, by simp, fun k hk => World.putObj_heap_other (by have := HD.out; omega)⟩)
  have HF := hid (show Has (w7.putObj D (.deferred none)) w.heap.size 78 #[.bool true, .string ⟨#[]⟩, .slice a5 ks.length c5] from (World.putObj_heap_other (fun e => HDN.out e.symm)).trans H7.out)
  have HI := hid (hI.keep (X := w7.putObj D (.deferred none)) (T := fun b => w.heap.size ≤ b) (fun b hb _ => (World.putObj_heap_other (by have := HDW.out; omega)).trans (hO.2.2 b (by have := HR.out.lt; omega))) (fun b hb _ => Nat.le_trans QD.out.size hb))
  clear h6 h7 hO hDne hI q5 HL Q7
  gi_wp2_with fail
  try rw [hw7]
  refine ⟨by simp, .inl ⟨_, _, rfl, run_takeDeferred hK7.out, ?_⟩⟩
  have y0 := HF.out.cell 0 _ rfl
  have y1 := HF.out.cell 1 _ rfl
  have y2 := HF.out.cell 2 _ rfl
  exact ⟨.agg #[.bool true, .string ⟨#[]⟩, .slice a5 ks.length c5], by simp [results, Tryz.results46, go_sem, y0, y1, y2], _, rfl, by rw [HKS.out]; exact HI.out, QF.out⟩
end Go.Proofs.YtkicmbdjihjgfaaGreatDoor
