import Derived.Test.YtadfkiebblmfkaaGreatDoorS11
import Derived.Laws.StructEq
import Derived.Test.YtadfkiebblmfkaaGreatDoorS12
import Derived.BigQuiet
/- Merge and Diff. Conditions: the slots lie in memory. -/
namespace Go.Proofs.YtadfkiebblmfkaaGreatDoor
open Go Go.RowKit
attribute [local go_sem] Oper.semAt_some Grows wide_fn

theorem RowT.lower {W : World} {base low : Nat} {v : Value} {l : List Sl} (h : RowT W base v l) (hl : low ≤ base) : RowT W low v l := by
  refine ⟨h.1, ?_⟩
  rcases h.2 with h' | ⟨g, cap, cur, e1, e2, e3, e4⟩
  · exact .inl h'
  · exact .inr ⟨g, cap, cur, e1, Nat.le_trans hl e2, e3, e4⟩
/-- What Merge and Diff come to. -/
def DoneP (W : World) (ok : Bool) (out : List Sl) (e : Ending) (W' : World) : Prop :=
  ((ok = true ∧ out.length ≤ 1000 ∧ ∃ sv, e = .returned (.tuple #[sv, .int .i64 0]) ∧ RowT W' W.heap.size sv out) ∨ (ok = true ∧ ¬ out.length ≤ 1000 ∧ e = .returned (.tuple #[.slice none 0 0, .int .i64 2])) ∨ (ok = false ∧ e = .returned (.tuple #[.slice none 0 0, .int .i64 1]))) ∧ Below W.heap.size W W'

set_option maxRecDepth 100000 in
set_option maxHeartbeats 2000000 in
theorem merge_any (W : World) (sa sb : Value) (la lb : List Sl) (ha : SlotsAt W sa la) (hb : SlotsAt W sb lb) :
    Calls Tryz.prog 120 #[sa, sb] W (DoneP W (rightB' la && patchB lb) (mergeL la lb)) := by
  have HA := Lib.hid ha
  have HB := Lib.hid hb
  have H1 := Lib.hid (right_slots W sa la ha)
  have HRA := Lib.hid (fun (h : rightB' la = true) => ((rightB_iff' la).1 h).1)
  have HRB := Lib.hid (fun (h : patchB lb = true) => ((patchB_iff lb).1 h).1)
  clear ha hb
  generalize hra : rightB' la = ra at *
  generalize hrb : patchB lb = rb at *
  have HEB := Lib.hid hrb
  clear hra hrb
  go_enter Tryz.func120, Tryz.ntmps120
  go_wp2_with fail
  refine H1.out.mono ?_
  rintro _ W1 ⟨rfl, q1⟩
  have Q1 := Lib.hid q1
  clear q1 H1
  cases ra
  · clear HRA HRB
    go_wp2_with fail
    go_ret2
    exact ⟨.inr (.inr ⟨by simp, rfl⟩), Q1.out⟩
  · go_wp2_with fail
    refine (patch_any W1 sb lb (HB.out.later Q1.out)).mono ?_
    rintro _ W2 ⟨rfl, q2⟩
    rw [HEB.out]
    have Q2 := Lib.hid (Q1.out.trans (q2.mono Q1.out.size))
    clear q2 Q1 HEB
    cases rb
    · clear HRA HRB
      go_wp2_with fail
      go_ret2
      exact ⟨.inr (.inr ⟨by simp, rfl⟩), Q2.out⟩
    · have h1 := HRA.out trivial
      have h2 := HRB.out rfl
      have HL := Lib.hid (listed_any W2 sa sb la lb (HA.out.later Q2.out) (HB.out.later Q2.out) 149 behindF behind_ok (enters_of Tryz.func149 (by kernel_rfl) rfl) h1 h2)
      clear h1 h2 HRA HRB HA HB
      go_wp2_with fail
      refine HL.out.mono ?_
      rintro _ W3 ⟨hc, q3⟩
      have Q3 := Lib.hid (Q2.out.trans (q3.mono Q2.out.size))
      rcases hc with ⟨h4, sv, rfl, h5⟩ | ⟨h4, rfl⟩
      · have K := Lib.hid (And.intro h4 (h5.lower Q2.out.size))
        clear h4 h5 q3 HL
        go_wp2_with fail
        go_ret2
        exact ⟨.inl ⟨rfl, K.out.1, sv, rfl, K.out.2⟩, Q3.out⟩
      · have K := Lib.hid h4
        clear h4 q3 HL
        go_wp2_with fail
        go_ret2
        exact ⟨.inr (.inl ⟨rfl, K.out, rfl⟩), Q3.out⟩

end Go.Proofs.YtadfkiebblmfkaaGreatDoor

/- Put and Get. Conditions: the slots lie in memory. -/
namespace Go.Proofs.YtadfkiebblmfkaaGreatDoor
open Go Go.RowKit
attribute [local go_sem] Oper.semAt_some Grows wide_fn eq4

theorem patchB_one (x : Sl) : patchB [x] = true := (patchB_iff _).2 ⟨by simp, by unfold Rise; simp⟩
theorem slots_one {W : World} {B : Nat} {k v : Nat} (h : Has W B 67 #[.int .u64 (lim k 0), .int .u64 (lim k 1), .int .u64 (lim k 2), .int .u64 (lim k 3), .int .u64 (lim v 0), .int .u64 (lim v 1), .int .u64 (lim v 2), .int .u64 (lim v 3)]) (hk : W256 k) (hv : W256 v) : SlotsAt W (.slice (some ⟨B, 0, none⟩) 1 1) [(k, v)] := by
  refine ⟨some ⟨B, 0, none⟩, 1, rfl, by simp, by omega, fun x hx => by simp at hx; subst hx; exact ⟨hk, hv⟩, fun i x hx => ?_⟩
  have hi : i = 0 := by
    have := (List.getElem?_eq_some_iff.1 hx).1
    simp at this
    exact this
  subst hi
  injection hx with hx
  subst hx
  refine ⟨_, rfl, fun j hj => ?_⟩
  rw [Addr.add_add]
  obtain rfl | rfl | rfl | rfl | rfl | rfl | rfl | rfl : j = 0 ∨ j = 1 ∨ j = 2 ∨ j = 3 ∨ j = 4 ∨ j = 5 ∨ j = 6 ∨ j = 7 := by omega
  · exact h.cell 0 _ rfl
  · exact h.cell 1 _ rfl
  · exact h.cell 2 _ rfl
  · exact h.cell 3 _ rfl
  · exact h.cell 4 _ rfl
  · exact h.cell 5 _ rfl
  · exact h.cell 6 _ rfl
  · exact h.cell 7 _ rfl
theorem DoneP.lower {W V : World} {ok : Bool} {out : List Sl} {e : Ending} {W' : World} (h : DoneP V ok out e W') (hb : Below W.heap.size W V) : DoneP W ok out e W' := by
  refine ⟨?_, hb.trans (h.2.mono hb.size)⟩
  rcases h.1 with ⟨h1, h2, sv, h3, h4⟩ | h1 | h1
  · exact .inl ⟨h1, h2, sv, h3, h4.lower hb.size⟩
  · exact .inr (.inl h1)
  · exact .inr (.inr h1)
theorem DoneP.two {W : World} {ok : Bool} {out : List Sl} {e : Ending} {W' : World} (h : DoneP W ok out e W') : ∃ a b, e = .returned (.tuple #[a, b]) := by
  rcases h.1 with ⟨_, _, sv, h3, _⟩ | ⟨_, _, h3⟩ | ⟨_, h3⟩
  · exact ⟨_, _, h3⟩
  · exact ⟨_, _, h3⟩
  · exact ⟨_, _, h3⟩
set_option maxRecDepth 100000 in
set_option maxHeartbeats 2000000 in
theorem put_any (W : World) (sv : Value) (l : List Sl) (hs : SlotsAt W sv l) (k v : Nat) (hk : W256 k) (hv : W256 v) :
    Calls Tryz.prog 94 #[sv, wv k, wv v] W (DoneP W (rightB' l) (mergeL l [(k, v)])) := by
  have K1 := (Has.new W 28 #[.int .u64 (lim k 0), .int .u64 (lim k 1), .int .u64 (lim k 2), .int .u64 (lim k 3)]).alloc (.cells #[.int .u64 (lim v 0), .int .u64 (lim v 1), .int .u64 (lim v 2), .int .u64 (lim v 3)] 28)
  have K2 := Has.new (W.alloc (.cells #[.int .u64 (lim k 0), .int .u64 (lim k 1), .int .u64 (lim k 2), .int .u64 (lim k 3)] 28)) 28 #[.int .u64 (lim v 0), .int .u64 (lim v 1), .int .u64 (lim v 2), .int .u64 (lim v 3)]
  have K3 := Has.new ((W.alloc (.cells #[.int .u64 (lim k 0), .int .u64 (lim k 1), .int .u64 (lim k 2), .int .u64 (lim k 3)] 28)).alloc (.cells #[.int .u64 (lim v 0), .int .u64 (lim v 1), .int .u64 (lim v 2), .int .u64 (lim v 3)] 28)) 67 #[.int .u64 (lim k 0), .int .u64 (lim k 1), .int .u64 (lim k 2), .int .u64 (lim k 3), .int .u64 (lim v 0), .int .u64 (lim v 1), .int .u64 (lim v 2), .int .u64 (lim v 3)]
  simp only [World.size_alloc] at K2 K3
  have Q := Lib.hid ((((Below.refl W.heap.size W).alloc (Nat.le_refl _) (.cells #[.int .u64 (lim k 0), .int .u64 (lim k 1), .int .u64 (lim k 2), .int .u64 (lim k 3)] 28)).alloc (by simp) (.cells #[.int .u64 (lim v 0), .int .u64 (lim v 1), .int .u64 (lim v 2), .int .u64 (lim v 3)] 28)).alloc (by simp; omega) (.cells #[.int .u64 (lim k 0), .int .u64 (lim k 1), .int .u64 (lim k 2), .int .u64 (lim k 3), .int .u64 (lim v 0), .int .u64 (lim v 1), .int .u64 (lim v 2), .int .u64 (lim v 3)] 67))
  have a0 := K1.cell 0 _ rfl
  have b0 := K2.cell 0 _ rfl
  have a1 := K1.cell 1 _ rfl
  have b1 := K2.cell 1 _ rfl
  have a2 := K1.cell 2 _ rfl
  have b2 := K2.cell 2 _ rfl
  have a3 := K1.cell 3 _ rfl
  have b3 := K2.cell 3 _ rfl
  have HM := Lib.hid (merge_any (((W.alloc (.cells #[.int .u64 (lim k 0), .int .u64 (lim k 1), .int .u64 (lim k 2), .int .u64 (lim k 3)] 28)).alloc (.cells #[.int .u64 (lim v 0), .int .u64 (lim v 1), .int .u64 (lim v 2), .int .u64 (lim v 3)] 28)).alloc (.cells #[.int .u64 (lim k 0), .int .u64 (lim k 1), .int .u64 (lim k 2), .int .u64 (lim k 3), .int .u64 (lim v 0), .int .u64 (lim v 1), .int .u64 (lim v 2), .int .u64 (lim v 3)] 67)) sv (.slice (some ⟨W.heap.size + 1 + 1, 0, none⟩) 1 1) l [(k, v)] (hs.later Q.out) (slots_one K3 hk hv))
  rw [patchB_one, Bool.and_true] at HM
  unfold wv
  generalize rightB' l = ok at *
  generalize mergeL l [(k, v)] = out at *
  clear hs hk hv
  generalize lim k 0 = k0 at *
  generalize lim k 1 = k1 at *
  generalize lim k 2 = k2 at *
  generalize lim k 3 = k3 at *
  generalize lim v 0 = v0 at *
  generalize lim v 1 = v1 at *
  generalize lim v 2 = v2 at *
  generalize lim v 3 = v3 at *
  replace K1 := Lib.hid K1
  replace K2 := Lib.hid K2
  replace K3 := Lib.hid K3
  go_enter Tryz.func94, Tryz.ntmps94
  go_wp2_with fail
  refine HM.out.mono ?_
  intro e W5 hd
  obtain ⟨x, y, rfl⟩ := hd.two
  have HD := Lib.hid (hd.lower Q.out)
  clear hd HM a0 a1 a2 a3 b0 b1 b2 b3
  go_wp2_with fail
  go_ret2
  exact HD.out
end Go.Proofs.YtadfkiebblmfkaaGreatDoor

/- '==' of slots. Conditions: none. -/
namespace Go.Proofs.YtadfkiebblmfkaaGreatDoor
open Go Go.RowKit
theorem eq4d (k : Nat) (a b c d a' b' c' d' : Int) (w : World) : (Op.equalIn (k + 2) 28 (.agg #[.int .u64 a, .int .u64 b, .int .u64 c, .int .u64 d]) (.agg #[.int .u64 a', .int .u64 b', .int .u64 c', .int .u64 d'])).run Tryz.prog w = .ok (a == a' && b == b' && c == c' && d == d') w := by
  have u3 := Tryz.underlying26
  have a3 := Tryz.isAgg26
  have z3 := Tryz.sizeOf26
  rw [Op.equalIn]
  simp only [Sem.run_bind, run_underlying Tryz.underlying28, Result.andThen_ok]
  simp only [Std.Legacy.Range.forIn_eq_forIn_range', Std.Legacy.Range.size, Nat.sub_zero, Nat.add_sub_cancel, Nat.div_one, List.range'_succ, List.range'_zero, List.forIn_cons, List.forIn_nil]
  go_simp
  by_cases h1 : a = a' <;> by_cases h2 : b = b' <;> by_cases h3 : c = c' <;> by_cases h4 : d = d' <;> simp [h1, h2, h3, h4]
theorem eq8 (a b c d e f g h a' b' c' d' e' f' g' h' : Int) (w : World) : (Op.equalIn 10000 67 (.agg #[.int .u64 a, .int .u64 b, .int .u64 c, .int .u64 d, .int .u64 e, .int .u64 f, .int .u64 g, .int .u64 h]) (.agg #[.int .u64 a', .int .u64 b', .int .u64 c', .int .u64 d', .int .u64 e', .int .u64 f', .int .u64 g', .int .u64 h'])).run Tryz.prog w = .ok ((a == a' && b == b' && c == c' && d == d') && (e == e' && f == f' && g == g' && h == h')) w := by
  have a3 := Tryz.isAgg28
  have z3 := Tryz.sizeOf28
  rw [show (10000 : Nat) = 9999 + 1 from rfl, run_equalIn_struct (P := Tryz.prog) w 9999 67 _ _ (by kernel_rfl) (by kernel_rfl)]
  have hf : (Tryz.prog.fieldsOf 67).toList.map (fun f => (f.name, f.type, f.offset)) = [("Key", 28, 0), ("Value", 28, 4)] := by kernel_rfl
  generalize (Tryz.prog.fieldsOf 67).toList = l at hf
  rcases l with _ | ⟨x, _ | ⟨y, _ | ⟨z, l⟩⟩⟩
  · cases hf
  · simp at hf
  · simp only [List.map_cons, List.map_nil, List.cons.injEq, Prod.mk.injEq, and_true] at hf
    obtain ⟨⟨h1, h2, h3⟩, h4, h5, h6⟩ := hf
    have e1 := eq4d 9997 a b c d a' b' c' d' w
    have e2 := eq4d 9997 e f g h e' f' g' h' w
    simp only [Nat.reduceAdd] at e1 e2
    generalize (a == a' && b == b' && c == c' && d == d') = p at *
    generalize (e == e' && f == f' && g == g' && h == h') = q at *
    unfold Op.eqFields Op.eqFields Op.eqFields
    simp [h1, h2, h3, h4, h5, h6, part, go_sem, a3, z3, e1, e2]
    cases p <;> cases q <;> simp
  · simp at hf
theorem eq_slot (x y : Sl) (hx : W256 x.1 ∧ W256 x.2) (hy : W256 y.1 ∧ W256 y.2) : ((lim x.1 0 == lim y.1 0 && lim x.1 1 == lim y.1 1 && lim x.1 2 == lim y.1 2 && lim x.1 3 == lim y.1 3) && (lim x.2 0 == lim y.2 0 && lim x.2 1 == lim y.2 1 && lim x.2 2 == lim y.2 2 && lim x.2 3 == lim y.2 3)) = decide (x = y) := by
  rw [eqv_w x.1 y.1 hx.1 hy.1, eqv_w x.2 y.2 hx.2 hy.2]
  by_cases h : x = y
  · subst h; simp
  · rw [decide_eq_false h]
    refine Bool.eq_false_iff.2 fun e => h ?_
    rw [Bool.and_eq_true, decide_eq_true_eq, decide_eq_true_eq] at e
    exact Prod.ext e.1 e.2
end Go.Proofs.YtadfkiebblmfkaaGreatDoor

/- Same of the reference. Conditions: the slots lie in memory. -/
namespace Go.Proofs.YtadfkiebblmfkaaGreatDoor
open Go Go.RowKit
attribute [local go_sem] Oper.semAt_some Grows wide_fn Tryz.eqGuardType67
attribute [local go_sem high] eq8

theorem SlotsAt.at' {W : World} {b : Addr} {n cap : Nat} {l : List Sl} (h : SlotsAt W (.slice (some b) n cap) l) {i : Nat} {x : Sl} (hx : l[i]? = some x) : W.cell? (b.add (i * 8)) = some (.int .u64 (lim x.1 0)) ∧ W.cell? ⟨(b.add (i * 8)).block, (b.add (i * 8)).off + 1, none⟩ = some (.int .u64 (lim x.1 1)) ∧ W.cell? ⟨(b.add (i * 8)).block, (b.add (i * 8)).off + 2, none⟩ = some (.int .u64 (lim x.1 2)) ∧ W.cell? ⟨(b.add (i * 8)).block, (b.add (i * 8)).off + 3, none⟩ = some (.int .u64 (lim x.1 3)) ∧ W.cell? ⟨(b.add (i * 8)).block, (b.add (i * 8)).off + 4, none⟩ = some (.int .u64 (lim x.2 0)) ∧ W.cell? ⟨(b.add (i * 8)).block, (b.add (i * 8)).off + 5, none⟩ = some (.int .u64 (lim x.2 1)) ∧ W.cell? ⟨(b.add (i * 8)).block, (b.add (i * 8)).off + 6, none⟩ = some (.int .u64 (lim x.2 2)) ∧ W.cell? ⟨(b.add (i * 8)).block, (b.add (i * 8)).off + 7, none⟩ = some (.int .u64 (lim x.2 3)) := by
  obtain ⟨b', e, h'⟩ := h.at hx
  injection e with e
  subst e
  exact h'
theorem same_snoc {a b : List Sl} {n : Nat} (ha : a.length = n) (hb : b.length = n) (h : ∀ (j : Nat) (x y : Sl), a[j]? = some x → b[j]? = some y → x = y) : a = b := by
  refine List.ext_getElem? fun j => ?_
  by_cases hj : j < n
  · rw [List.getElem?_eq_getElem (by omega), List.getElem?_eq_getElem (by omega)]
    exact congrArg some (h j _ _ (List.getElem?_eq_getElem (by omega)) (List.getElem?_eq_getElem (by omega)))
  · rw [List.getElem?_eq_none (by omega), List.getElem?_eq_none (by omega)]
set_option maxRecDepth 100000 in
set_option maxHeartbeats 2000000 in
theorem same_any (W : World) (sa sb : Value) (la lb : List Sl) (ha : SlotsAt W sa la) (hb : SlotsAt W sb lb) :
    Calls Tryz.prog 38 #[sa, sb] W fun e w' => e = .returned (.bool (decide (la = lb))) ∧ Below W.heap.size W w' := by
  have hmx : Tryz.prog.follows .mixedOrders = true := by kernel_rfl
  obtain ⟨a, ca, rfl, ha1, ha2⟩ := ha.shape
  obtain ⟨b, cb, rfl, hb1, hb2⟩ := hb.shape
  have HA := Lib.hid ha
  have HB := Lib.hid hb
  obtain ⟨m, hm⟩ : ∃ m, la.length = m := ⟨_, rfl⟩
  obtain ⟨n, hn⟩ : ∃ n, lb.length = n := ⟨_, rfl⟩
  rw [hm] at HA ha1 ⊢
  rw [hn] at HB hb1 ⊢
  have HM := Lib.hid hm
  have HN := Lib.hid hn
  have hlc := Lib.hid (Nat.le_trans ha1 ha2)
  clear ha hb hm hn ha1 ha2 hb1 hb2
  by_cases hmn : m = n
  · subst hmn
    have hres := Lib.hid (show ∀ X, Below W.heap.size W X → (∀ (j : Nat) (x y : Sl), la[j]? = some x → lb[j]? = some y → x = y) → (Ending.returned (.bool true) = .returned (.bool (decide (la = lb))) ∧ Below W.heap.size W X) from fun X hX h => ⟨by rw [decide_eq_true (same_snoc HM.out HN.out h)], hX⟩)
    have hno := Lib.hid (show ∀ X, Below W.heap.size W X → la ≠ lb → (Ending.returned (.bool false) = .returned (.bool (decide (la = lb))) ∧ Below W.heap.size W X) from fun X hX h => ⟨by rw [decide_eq_false h], hX⟩)
    obtain ⟨Post, hPost⟩ : ∃ Post : Ending → World → Prop, (fun (e : Ending) (w' : World) => e = .returned (.bool (decide (la = lb))) ∧ Below W.heap.size W w') = Post := ⟨_, rfl⟩
    replace hres := Lib.hid (show ∀ X, Below W.heap.size W X → (∀ (j : Nat) (x y : Sl), la[j]? = some x → lb[j]? = some y → x = y) → Post (.returned (.bool true)) X by rw [← hPost]; exact hres.out)
    replace hno := Lib.hid (show ∀ X, Below W.heap.size W X → la ≠ lb → Post (.returned (.bool false)) X by rw [← hPost]; exact hno.out)
    rw [hPost]
    clear hPost
    go_enter Tryz.func38, Tryz.ntmps38
    go_wp2_with fail
    go_loopw [5] (fun i wr => ∃ k : Nat, k ≤ m ∧ i = .int .i64 (k : Int) ∧ (∀ (j : Nat) (x y : Sl), j < k → la[j]? = some x → lb[j]? = some y → x = y) ∧ Below W.heap.size W wr) (fun i _ => m - (intOf i).toNat)
    case atStart => exact ⟨0, by omega, rfl, fun j x y h => absurd h (by omega), Below.refl _ _⟩
    case round =>
      obtain ⟨k, hk, rfl, hlt, hq⟩ := hrel
      have HLT := Lib.hid hlt
      have HQ := Lib.hid hq
      clear hlt hq
      by_cases hkn : k < m
      · have hknI : (k : Int) < (m : Int) := by omega
        have hk0 : (0 : Int) ≤ (k : Int) := by omega
        have hkb : (k : Int) ≤ 9223372036854775806 := by have := hlc.out; omega
        obtain ⟨x, hx⟩ : ∃ x, la[k]? = some x := ⟨_, List.getElem?_eq_getElem (by have := HM.out; omega)⟩
        obtain ⟨y, hy⟩ : ∃ y, lb[k]? = some y := ⟨_, List.getElem?_eq_getElem (by have := HN.out; omega)⟩
        obtain ⟨ba, rfl, _⟩ := (HA.out.later HQ.out).at hx
        obtain ⟨bb, rfl, _⟩ := (HB.out.later HQ.out).at hy
        have hC := fun z : Ext wr => (HA.out.later (HQ.out.trans (z.below.mono HQ.out.size))).at' hx
        have hD := fun z : Ext wr => (HB.out.later (HQ.out.trans (z.below.mono HQ.out.size))).at' hy
        have wx := HA.out.wide hx
        have wy := HB.out.wide hy
        have hE := eq_slot x y wx wy
        have c0 := fun z : Ext wr => (hC z).1
        have c1 := fun z : Ext wr => (hC z).2.1
        have c2 := fun z : Ext wr => (hC z).2.2.1
        have c3 := fun z : Ext wr => (hC z).2.2.2.1
        have c4 := fun z : Ext wr => (hC z).2.2.2.2.1
        have c5 := fun z : Ext wr => (hC z).2.2.2.2.2.1
        have c6 := fun z : Ext wr => (hC z).2.2.2.2.2.2.1
        have c7 := fun z : Ext wr => (hC z).2.2.2.2.2.2.2
        have d0 := fun z : Ext wr => (hD z).1
        have d1 := fun z : Ext wr => (hD z).2.1
        have d2 := fun z : Ext wr => (hD z).2.2.1
        have d3 := fun z : Ext wr => (hD z).2.2.2.1
        have d4 := fun z : Ext wr => (hD z).2.2.2.2.1
        have d5 := fun z : Ext wr => (hD z).2.2.2.2.2.1
        have d6 := fun z : Ext wr => (hD z).2.2.2.2.2.2.1
        have d7 := fun z : Ext wr => (hD z).2.2.2.2.2.2.2
        have HK := Lib.hid hkn
        have HX := Lib.hid (And.intro hx hy)
        clear hkn hx hy wx wy hk hC hD
        by_cases hxy : x = y
        · rw [decide_eq_true hxy] at hE
          have HXY := Lib.hid hxy
          clear hxy
          generalize lim x.1 0 = x0 at *
          generalize lim x.1 1 = x1 at *
          generalize lim x.1 2 = x2 at *
          generalize lim x.1 3 = x3 at *
          generalize lim x.2 0 = x4 at *
          generalize lim x.2 1 = x5 at *
          generalize lim x.2 2 = x6 at *
          generalize lim x.2 3 = x7 at *
          generalize lim y.1 0 = y0 at *
          generalize lim y.1 1 = y1 at *
          generalize lim y.1 2 = y2 at *
          generalize lim y.1 3 = y3 at *
          generalize lim y.2 0 = y4 at *
          generalize lim y.2 1 = y5 at *
          generalize lim y.2 2 = y6 at *
          generalize lim y.2 3 = y7 at *
          go_wp2_with fail
          refine wp_region_quietL (C := Grows wr) hmx (by kernel_rfl) (grows_refl wr) ?_
          repeat (go_big_quiet_step (fail))
          refine wpQuiet_nil ?_
          rintro _ ⟨z, rfl⟩
          have HE := Lib.hid (HQ.out.trans (z.below.mono HQ.out.size))
          clear c0 c1 c2 c3 c4 c5 c6 c7 d0 d1 d2 d3 d4 d5 d6 d7
          go_wp2_with fail
          go_roundw
          case rel => exact ⟨k + 1, by have := HK.out; omega, by simp, fun j x' y' hj hx hy => by
            by_cases hjk : j < k
            · exact HLT.out j x' y' hjk hx hy
            · obtain rfl : j = k := by omega
              rw [HX.out.1] at hx
              rw [HX.out.2] at hy
              injection hx with hx
              injection hy with hy
              subst hx hy
              exact HXY.out, HE.out⟩
          case measure => have := HK.out; simp [intOf]; omega
        · rw [decide_eq_false hxy] at hE
          have HXY := Lib.hid (show la ≠ lb from fun h => hxy (by
            have h1 := HX.out.1
            rw [h, HX.out.2] at h1
            injection h1 with h1
            exact h1.symm))
          clear hxy
          generalize lim x.1 0 = x0 at *
          generalize lim x.1 1 = x1 at *
          generalize lim x.1 2 = x2 at *
          generalize lim x.1 3 = x3 at *
          generalize lim x.2 0 = x4 at *
          generalize lim x.2 1 = x5 at *
          generalize lim x.2 2 = x6 at *
          generalize lim x.2 3 = x7 at *
          generalize lim y.1 0 = y0 at *
          generalize lim y.1 1 = y1 at *
          generalize lim y.1 2 = y2 at *
          generalize lim y.1 3 = y3 at *
          generalize lim y.2 0 = y4 at *
          generalize lim y.2 1 = y5 at *
          generalize lim y.2 2 = y6 at *
          generalize lim y.2 3 = y7 at *
          go_wp2_with fail
          refine wp_region_quietL (C := Grows wr) hmx (by kernel_rfl) (grows_refl wr) ?_
          repeat (go_big_quiet_step (fail))
          refine wpQuiet_nil ?_
          rintro _ ⟨z, rfl⟩
          have HE := Lib.hid (HQ.out.trans (z.below.mono HQ.out.size))
          clear c0 c1 c2 c3 c4 c5 c6 c7 d0 d1 d2 d3 d4 d5 d6 d7
          go_wp2_with fail
          exact hno.out _ HE.out HXY.out
      · have hknI : ¬ (k : Int) < (m : Int) := by omega
        have HR := Lib.hid (show ∀ (j : Nat) (x y : Sl), la[j]? = some x → lb[j]? = some y → x = y from fun j x y hx hy => HLT.out j x y (by
          have := (List.getElem?_eq_some_iff.1 hx).1
          have := HM.out
          omega) hx hy)
        go_wp2_with fail
        exact hres.out _ HQ.out HR.out
  · have hI : ¬ (m : Int) = (n : Int) := by omega
    have hne := Lib.hid (show la ≠ lb from fun h => hmn (by rw [← HM.out, ← HN.out, h]))
    clear hmn
    go_enter Tryz.func38, Tryz.ntmps38
    go_wp2_with fail
    go_ret
    exact ⟨by rw [decide_eq_false hne.out]; rfl, Below.refl _ _⟩
end Go.Proofs.YtadfkiebblmfkaaGreatDoor

/- States: accounts, one behind the other. Conditions: none. -/
namespace Go.Proofs.YtadfkiebblmfkaaGreatDoor
open Go Go.RowKit

/-- Accounts, one behind the other. -/
def StAt (W : World) (v : Value) (l : List Ac) : Prop :=
  ∃ a cap, v = .slice a l.length cap ∧ l.length ≤ cap ∧ cap ≤ 9223372036854775807 ∧ (∀ x ∈ l, AcOk x) ∧ ∀ (i : Nat) (x : Ac), l[i]? = some x → ∃ b sv, a = some b ∧ SlotsAt W sv x.slots ∧ ∀ (j : Nat) (u : Value), (acL x sv)[j]? = some u → W.cell? ((b.add (i * 27)).add j) = some u
theorem StAt.keep {W X : World} {v : Value} {l : List Ac} (h : StAt W v l) (hk : ∀ (a : Addr) (u : Value), W.cell? a = some u → X.cell? a = some u) : StAt X v l := by
  obtain ⟨a, cap, h1, h2, h3, h4, h5⟩ := h
  refine ⟨a, cap, h1, h2, h3, h4, fun i x hx => ?_⟩
  obtain ⟨b, sv, e, hs, hc⟩ := h5 i x hx
  exact ⟨b, sv, e, hs.keep hk, fun j u hj => hk _ _ (hc j u hj)⟩
theorem StAt.later {W X : World} {v : Value} {l : List Ac} (h : StAt W v l) (hb : Below W.heap.size W X) : StAt X v l := h.keep (cell_below hb)
theorem StAt.nil (W : World) : StAt W (.slice none 0 0) [] := ⟨none, 0, rfl, by simp, by omega, (fun x hx => by cases hx), fun i x hx => by simp at hx⟩
theorem StAt.shape {W : World} {v : Value} {l : List Ac} (h : StAt W v l) : ∃ a cap, v = .slice a l.length cap ∧ l.length ≤ cap ∧ cap ≤ 9223372036854775807 := by
  obtain ⟨a, cap, h1, h2, h3, _⟩ := h
  exact ⟨a, cap, h1, h2, h3⟩
theorem StAt.ok {W : World} {v : Value} {l : List Ac} (h : StAt W v l) {i : Nat} {x : Ac} (hx : l[i]? = some x) : AcOk x := by
  obtain ⟨a, cap, h1, h2, h3, h4, _⟩ := h
  exact h4 x (List.mem_of_getElem? hx)
/-- What is known of one of them, in whatever later world. -/
structure AcIn (W : World) (p : Addr) (x : Ac) (sv : Value) : Prop where
  slots : SlotsAt W sv x.slots
  cells : ∀ (j : Nat) (u : Value), (acL x sv)[j]? = some u → W.cell? (p.add j) = some u
theorem AcIn.later {W X : World} {p : Addr} {x : Ac} {sv : Value} (h : AcIn W p x sv) (hb : Below W.heap.size W X) : AcIn X p x sv := ⟨h.slots.later hb, fun j u hj => cell_below hb _ _ (h.cells j u hj)⟩
theorem StAt.at {W : World} {a : Option Addr} {n cap : Nat} {l : List Ac} (h : StAt W (.slice a n cap) l) {i : Nat} {x : Ac} (hx : l[i]? = some x) : ∃ b sv, a = some b ∧ AcIn W (b.add (i * 27)) x sv := by
  obtain ⟨a', cap', h1, h2, h3, h4, h5⟩ := h
  injection h1 with e1 e2 e3
  subst e1
  obtain ⟨b, sv, e, hs, hc⟩ := h5 i x hx
  exact ⟨b, sv, e, hs, hc⟩
theorem StAt.in {W : World} {b : Addr} {n cap : Nat} {l : List Ac} (h : StAt W (.slice (some b) n cap) l) {i : Nat} {x : Ac} (hx : l[i]? = some x) : ∃ sv, AcIn W (b.add (i * 27)) x sv := by
  obtain ⟨b', sv, e, h⟩ := h.at hx
  injection e with e
  subst e
  exact ⟨sv, h⟩
/-- A variable of many cells is read, wherever it lies. -/
theorem run_loadVar_at {P : Program} (w : World) (a : Addr) (ty : TypeId) (cs : List Value) (d : TypeDesc) (hc : ∀ (j : Nat) (v : Value), cs[j]? = some v → w.cell? (a.add j) = some v)
    (hu : P.underlying ty = some d) (hd : d.isRow = true) (hi : (P.info? ty).map (·.size) = some cs.length) :
    (loadVar ty a).run P w = .ok (.agg cs.toArray) w := by
  have hl : (loadCells a cs.length).run P w = .ok cs.toArray w := run_loadCells_list (P := P) w a cs hc
  cases hq : P.info? ty with
  | none => simp [hq] at hi
  | some i =>
    have hs : i.size = cs.length := by simpa [hq] using hi
    have hagg : (isAgg ty).run P w = .ok true w := by
      unfold isAgg
      rw [Sem.run_bind, run_underlying hu w]
      cases d <;> simp_all
    simp [loadVar, Sem.run_bind, hagg, sizeOf, typeInfo, hq, hs, hl]
theorem infoAd : (Tryz.prog.info? 25).map (·.size) = some 20 := by kernel_rfl
theorem AcIn.load {W : World} {p : Addr} {x : Ac} {sv : Value} (h : AcIn W p x sv) : (loadVar 31 p).run Tryz.prog W = .ok (.agg (acC x sv)) W :=
  run_loadVar_at W p _ (acL x sv) _ h.cells Tryz.underlying31 rfl (by rw [acL_len]; exact infoAc)
theorem AcIn.loadAd {W : World} {p : Addr} {x : Ac} {sv : Value} (h : AcIn W p x sv) : (loadVar 25 p).run Tryz.prog W = .ok (.agg (adC x.at_)) W :=
  run_loadVar_at W p _ (adL x.at_) _ (fun j v hj => h.cells j v (by
    have hj20 : j < 20 := by
      have := (List.getElem?_eq_some_iff.1 hj).1
      rwa [adL_len] at this
    rw [acL_at x sv j hj20, ← hj, adL_at _ j hj20])) Tryz.underlying25 rfl (by rw [adL_len]; exact infoAd)
/-- A load that is known in every world of the class. -/
theorem wpQuiet_load {P : Program} {ops : Array Oper} {C : World → Prop} {rest : List Oper} {o : Oper} {a : Act} {Q : Act → Prop} (hw : Region.wanted o (yielded ops a.tmps) = true) (ty : TypeId) (x : Operand) (ho : o.op = .load ty x) (p : Addr) (hx : a.eval x = .pointer (some p)) (v : Value) (hr : ∀ w, C w → (loadVar ty p).run P w = .ok v w)
    (h : wpQuiet P ops C Q rest (a.put o.dst v)) : wpQuiet P ops C Q (o :: rest) a :=
  BigFrame.wpQuiet_want hw fun K hK => ⟨v, fun w hc => by
    unfold Oper.quietAt execOp
    simp only [ho, hx, Instr.loadAt, Instr.sureAddr, Sem.run_bind, Sem.run_pure, Result.andThen_ok, hr w hc]
    exact ⟨rfl, rfl⟩, hK _ h⟩
/-- Do addresses rise? -/
def Ups (l : List Ac) : Prop := l.Pairwise (fun x y => x.at_ < y.at_)
noncomputable def upsB (l : List Ac) : Bool := @decide (Ups l) (Classical.propDecidable _)
theorem upsB_iff (l : List Ac) : upsB l = true ↔ Ups l := by unfold upsB; exact @decide_eq_true_iff _ (Classical.propDecidable _)
theorem upsB_false {l : List Ac} (h : ¬ Ups l) : upsB l = false := by
  rcases hb : upsB l with _ | _
  · rfl
  · exact absurd ((upsB_iff l).1 hb) h
theorem ups_at {l : List Ac} : Ups l ↔ ∀ (j : Nat) (x y : Ac), l[j]? = some x → l[j + 1]? = some y → x.at_ < y.at_ := by
  constructor
  · intro h j x y hx hy
    have := List.pairwise_iff_getElem.1 h j (j + 1) (List.getElem?_eq_some_iff.1 hx).1 (List.getElem?_eq_some_iff.1 hy).1 (by omega)
    rw [(List.getElem?_eq_some_iff.1 hx).2, (List.getElem?_eq_some_iff.1 hy).2] at this
    exact this
  · intro h
    have key : ∀ (d i : Nat) (x y : Ac), l[i]? = some x → l[i + d + 1]? = some y → x.at_ < y.at_ := by
      intro d
      induction d with
      | zero => intro i x y hx hy; exact h i x y hx hy
      | succ d ih =>
        intro i x y hx hy
        obtain ⟨z, hz⟩ : ∃ z, l[i + d + 1]? = some z := ⟨_, List.getElem?_eq_getElem (by have := (List.getElem?_eq_some_iff.1 hy).1; omega)⟩
        exact Nat.lt_trans (ih i x z hx hz) (h (i + d + 1) z y hz (by rw [← hy]; congr 1))
    refine List.pairwise_iff_getElem.2 (fun i j hi hj hij => ?_)
    have := key (j - i - 1) i l[i] l[j] (List.getElem?_eq_getElem hi) (by rw [show i + (j - i - 1) + 1 = j by omega]; exact List.getElem?_eq_getElem hj)
    exact this
theorem acmp_ge (a b : Nat) : 0 ≤ acmp a b ↔ b ≤ a := by
  unfold acmp
  split
  · exact ⟨fun h => absurd h (by decide), fun h => by omega⟩
  · split
    · exact ⟨fun _ => by omega, fun _ => by decide⟩
    · exact ⟨fun _ => by omega, fun _ => by decide⟩
end Go.Proofs.YtadfkiebblmfkaaGreatDoor

/- Package state: rises. Conditions: the accounts lie in memory. -/
namespace Go.Proofs.YtadfkiebblmfkaaGreatDoor
open Go Go.RowKit
attribute [local go_sem] Oper.semAt_some Grows wide_fn

set_option maxRecDepth 100000 in
set_option maxHeartbeats 4000000 in
theorem ups_any (W : World) (sv : Value) (l : List Ac) (hs : StAt W sv l) :
    Calls Tryz.prog 31 #[sv] W fun e w' => e = .returned (.bool (upsB l)) ∧ Below W.heap.size W w' := by
  have hmx : Tryz.prog.follows .mixedOrders = true := by kernel_rfl
  obtain ⟨a, cap, rfl, hnc, hcm⟩ := hs.shape
  have HS := Lib.hid hs
  obtain ⟨n, hn⟩ : ∃ n, l.length = n := ⟨_, rfl⟩
  rw [hn] at HS hnc ⊢
  have HN := Lib.hid hn
  have hlc := Lib.hid (Nat.le_trans hnc hcm)
  clear hs hnc hcm hn
  have hfin := Lib.hid (show ∀ X v, Below W.heap.size W X → upsB l = v → (Ending.returned (.bool v) = .returned (.bool (upsB l)) ∧ Below W.heap.size W X) from fun X v hX h => ⟨by rw [h], hX⟩)
  obtain ⟨Post, hPost⟩ : ∃ Post : Ending → World → Prop, (fun (e : Ending) (w' : World) => e = .returned (.bool (upsB l)) ∧ Below W.heap.size W w') = Post := ⟨_, rfl⟩
  replace hfin := Lib.hid (show ∀ X v, Below W.heap.size W X → upsB l = v → Post (.returned (.bool v)) X by rw [← hPost]; exact hfin.out)
  rw [hPost]
  clear hPost
  go_enter Tryz.func31, Tryz.ntmps31
  go_wp2_with fail
  go_loopw [3] (fun i wr => ∃ k : Nat, 1 ≤ k ∧ (k ≤ n ∨ k = 1) ∧ i = .int .i64 (k : Int) ∧ (∀ (j : Nat) (x y : Ac), j + 1 < k → l[j]? = some x → l[j + 1]? = some y → x.at_ < y.at_) ∧ Below W.heap.size W wr) (fun i _ => n - (intOf i).toNat)
  case atStart => exact ⟨1, by omega, .inr rfl, rfl, fun j x y h => absurd h (by omega), Below.refl _ _⟩
  case round =>
    obtain ⟨k, hk1, hk, rfl, hlt, hq⟩ := hrel
    have HLT := Lib.hid hlt
    have HQ := Lib.hid hq
    clear hlt hq
    by_cases hkn : k < n
    · have hknI : (k : Int) < (n : Int) := by omega
      have hk0 : (0 : Int) ≤ (k : Int) := by omega
      have hkb : (k : Int) ≤ 9223372036854775806 := by have := hlc.out; omega
      obtain ⟨m, hm⟩ : ∃ m, k - 1 = m := ⟨_, rfl⟩
      have hm1 : (k : Int) - 1 = (m : Int) := by omega
      have hm2 : (m : Int) < (n : Int) := by omega
      obtain ⟨x, hx⟩ : ∃ x, l[m]? = some x := ⟨_, List.getElem?_eq_getElem (by have := HN.out; omega)⟩
      obtain ⟨y, hy⟩ : ∃ y, l[k]? = some y := ⟨_, List.getElem?_eq_getElem (by have := HN.out; omega)⟩
      obtain ⟨b, sx, rfl, ax⟩ := (HS.out.later HQ.out).at hx
      obtain ⟨sy, ay⟩ := (HS.out.later HQ.out).in hy
      have LX := Lib.hid (show ∀ z : World, Grows wr z → (loadVar 31 (b.add (m * 27))).run Tryz.prog z = .ok (.agg (acC x sx)) z from fun z hz => by obtain ⟨q, rfl⟩ := hz; exact (ax.later q.below).load)
      have LY := Lib.hid (show ∀ z : World, Grows wr z → (loadVar 25 (b.add (k * 27))).run Tryz.prog z = .ok (.agg (adC y.at_)) z from fun z hz => by obtain ⟨q, rfl⟩ := hz; exact (ay.later q.below).loadAd)
      have K3 := Lib.hid (fun z : Ext wr => Ext.at (order_any z.w x sx (HS.out.ok hx) y.at_ (HS.out.ok hy).at_))
      have hcge := Lib.hid (acmp_ge x.at_ y.at_)
      generalize acmp x.at_ y.at_ = c at *
      generalize acC x sx = cx at *
      generalize adC y.at_ = cy at *
      have HX := Lib.hid (And.intro hx hy)
      have HM := Lib.hid hm
      have HK := Lib.hid (And.intro hk1 hkn)
      clear hx hy hm hk1 hk hkn ax ay
      by_cases hc0 : 0 ≤ c
      · go_wp2_with fail
        refine wp_region_quietL (C := Grows wr) hmx (by kernel_rfl) (grows_refl wr) ?_
        repeat (first | (with_reducible refine wpQuiet_load rfl 31 _ rfl _ rfl _ LX.out ?_; simp only [Act.put, List.setIfInBounds_toArray, List.set_cons_succ, List.set_cons_zero]) | (with_reducible refine wpQuiet_load rfl 25 _ rfl _ rfl _ LY.out ?_; simp only [Act.put, List.setIfInBounds_toArray, List.set_cons_succ, List.set_cons_zero]) | (go_big_quiet_step (first | (with_reducible exact K3.out _))))
        refine wpQuiet_nil ?_
        rintro _ ⟨z, rfl⟩
        have hno := Lib.hid (show upsB l = false from upsB_false (fun hr => by
          have h1 := ups_at.1 hr m x y HX.out.1 (by rw [show m + 1 = k by have := HM.out; have := HK.out; omega]; exact HX.out.2)
          have := hcge.out.1 hc0
          omega))
        have HE := Lib.hid (HQ.out.trans (z.below.mono HQ.out.size))
        clear LX LY K3
        go_wp2_with fail
        exact hfin.out _ _ HE.out hno.out
      · go_wp2_with fail
        refine wp_region_quietL (C := Grows wr) hmx (by kernel_rfl) (grows_refl wr) ?_
        repeat (first | (with_reducible refine wpQuiet_load rfl 31 _ rfl _ rfl _ LX.out ?_; simp only [Act.put, List.setIfInBounds_toArray, List.set_cons_succ, List.set_cons_zero]) | (with_reducible refine wpQuiet_load rfl 25 _ rfl _ rfl _ LY.out ?_; simp only [Act.put, List.setIfInBounds_toArray, List.set_cons_succ, List.set_cons_zero]) | (go_big_quiet_step (first | (with_reducible exact K3.out _))))
        refine wpQuiet_nil ?_
        rintro _ ⟨z, rfl⟩
        have HE := Lib.hid (HQ.out.trans (z.below.mono HQ.out.size))
        have hlt := Lib.hid (show x.at_ < y.at_ from Nat.lt_of_not_le (fun h => by have := hcge.out.2 h; omega))
        clear LX LY K3
        go_wp2_with fail
        go_roundw
        case rel =>
          refine ⟨k + 1, by omega, .inl (by have := HK.out; omega), by simp, fun j x' y' hj h1 h2 => ?_, HE.out⟩
          by_cases hjk : j + 1 < k
          · exact HLT.out j x' y' hjk h1 h2
          · have hjk' : j = m := by have := HM.out; have := HK.out; omega
            subst hjk'
            rw [HX.out.1] at h1
            rw [show j + 1 = k by have := HM.out; have := HK.out; omega, HX.out.2] at h2
            injection h1 with h1
            injection h2 with h2
            subst h1 h2
            exact hlt.out
        case measure => have := HK.out; simp [intOf]; omega
    · have hknI : ¬ (k : Int) < (n : Int) := by omega
      have hyes := Lib.hid (show upsB l = true from (upsB_iff l).2 (ups_at.2 (fun j x y hx hy => HLT.out j x y (by
        have := (List.getElem?_eq_some_iff.1 hy).1
        have := HN.out
        omega) hx hy)))
      clear hk hkn hk1
      go_wp2_with fail
      exact hfin.out _ _ HQ.out hyes.out
end Go.Proofs.YtadfkiebblmfkaaGreatDoor

/- Package state: a stray account, Right. Conditions: the accounts lie in memory. -/
namespace Go.Proofs.YtadfkiebblmfkaaGreatDoor
open Go Go.RowKit
attribute [local go_sem] Oper.semAt_some Grows wide_fn

noncomputable def strayB (x : Ac) : Bool := emptyB x || !mayB x
def HasS (l : List Ac) : Prop := ∃ x ∈ l, strayB x = true
noncomputable def rightS (l : List Ac) : Bool := decide (l.length ≤ 200) && (upsB l && l.all (fun x => !strayB x))
set_option maxRecDepth 100000 in
set_option maxHeartbeats 4000000 in
theorem index_ac (W : World) (sv : Value) (l : List Ac) (hs : StAt W sv l) :
    Calls Tryz.prog 57 #[sv, .func (.func 33) #[] #[]] W fun e w' => ∃ r : Int, e = .returned (.int .i64 r) ∧ (0 ≤ r ↔ HasS l) ∧ Below W.heap.size W w' := by
  obtain ⟨a, cap, rfl, hnc, hcm⟩ := hs.shape
  have HS := Lib.hid hs
  obtain ⟨n, hn⟩ : ∃ n, l.length = n := ⟨_, rfl⟩
  rw [hn] at HS hnc ⊢
  have HN := Lib.hid hn
  have hlc := Lib.hid (Nat.le_trans hnc hcm)
  clear hs hnc hcm hn
  go_enter Tryz.func57, Tryz.ntmps57
  go_wp2_with fail
  go_loopw [8] (fun i wr => ∃ k : Nat, k ≤ n ∧ i = .int .i64 (k : Int) ∧ (∀ (j : Nat) (x : Ac), j < k → l[j]? = some x → strayB x = false) ∧ Below W.heap.size W wr) (fun i _ => n - (intOf i).toNat)
  case atStart => exact ⟨0, by omega, rfl, fun j x h => absurd h (by omega), Below.refl _ _⟩
  case round =>
    obtain ⟨k, hk, rfl, hlt, hq⟩ := hrel
    have HLT := Lib.hid hlt
    have HQ := Lib.hid hq
    clear hlt hq
    by_cases hkn : k < n
    · have hknI : (k : Int) < (n : Int) := by omega
      have hk0 : (0 : Int) ≤ (k : Int) := by omega
      have hkb : (k : Int) ≤ 9223372036854775806 := by have := hlc.out; omega
      obtain ⟨x, hx⟩ : ∃ x, l[k]? = some x := ⟨_, List.getElem?_eq_getElem (by have := HN.out; omega)⟩
      obtain ⟨b, sx, rfl, ax⟩ := (HS.out.later HQ.out).at hx
      have hl := ax.load
      have HV := Lib.hid (stray_any wr x sx (HS.out.ok hx) ax.slots)
      have HSX := Lib.hid (show strayB x = (emptyB x || !mayB x) from rfl)
      have HK := Lib.hid hkn
      have HX := Lib.hid hx
      clear hkn hx hk ax
      rw [← HSX.out] at HV
      generalize acC x sx = cx at *
      obtain ⟨sb, hsb⟩ : ∃ sb, strayB x = sb := ⟨_, rfl⟩
      rw [hsb] at HV
      have HB := Lib.hid hsb
      clear hsb
      go_wp2_with (refine wpList_load_known rfl _ _ rfl _ rfl _ hl ?_)
      refine HV.out.mono ?_
      rintro _ W2 ⟨rfl, q2⟩
      have HE := Lib.hid (HQ.out.trans (q2.mono HQ.out.size))
      clear q2 HV hl
      cases sb
      · go_wp2_with fail
        go_roundw
        case rel => exact ⟨k + 1, by have := HK.out; omega, by simp, fun j y hj hy => by
          by_cases hjk : j < k
          · exact HLT.out j y hjk hy
          · obtain rfl : j = k := by omega
            have e := hy.symm.trans HX.out
            injection e with e
            rw [e]
            exact HB.out, HE.out⟩
        case measure => have := HK.out; simp [intOf]; omega
      · have HR := Lib.hid (show 0 ≤ (k : Int) ↔ HasS l from ⟨fun _ => ⟨x, List.mem_of_getElem? HX.out, HB.out⟩, fun _ => hk0⟩)
        go_wp2_with fail
        go_ret
        exact ⟨_, rfl, HR.out, HE.out⟩
    · obtain rfl : k = n := by omega
      clear hkn
      have hno := Lib.hid (show 0 ≤ (-1 : Int) ↔ HasS l from ⟨fun h => absurd h (by omega), fun ⟨y, hy, h⟩ => by
        obtain ⟨j, hj⟩ := List.mem_iff_getElem?.1 hy
        have hjl := (List.getElem?_eq_some_iff.1 hj).1
        have := HLT.out j y (by have := HN.out; omega) hj
        rw [h] at this
        exact absurd this (by decide)⟩)
      go_wp2_with fail
      go_ret
      exact ⟨_, rfl, hno.out, HQ.out⟩

set_option maxRecDepth 100000 in
set_option maxHeartbeats 1000000 in
theorem contains_ac (W : World) (sv : Value) (l : List Ac) (hs : StAt W sv l) :
    Calls Tryz.prog 32 #[sv, .func (.func 33) #[] #[]] W fun e w' => e = .returned (.bool (!l.all (fun x => !strayB x))) ∧ Below W.heap.size W w' := by
  have H := Lib.hid (index_ac W sv l hs)
  clear hs
  go_enter Tryz.func32, Tryz.ntmps32
  go_wp2_with fail
  refine H.out.mono ?_
  rintro _ W1 ⟨r, rfl, hr, q⟩
  have HE := Lib.hid (show (!l.all (fun x => !strayB x)) = decide (0 ≤ r) by
    rw [Bool.eq_iff_iff, decide_eq_true_eq, hr]
    unfold HasS
    simp)
  have Q := Lib.hid q
  clear hr q H
  go_wp2_with fail
  go_ret
  exact ⟨by rw [HE.out]; rfl, Q.out⟩

set_option maxRecDepth 100000 in
set_option maxHeartbeats 1000000 in
theorem right_st (W : World) (sv : Value) (l : List Ac) (hs : StAt W sv l) :
    Calls Tryz.prog 12 #[sv] W fun e w' => e = .returned (.bool (rightS l)) ∧ Below W.heap.size W w' := by
  obtain ⟨a, cap, rfl, hnc, hcm⟩ := hs.shape
  have H1 := Lib.hid (ups_any W _ l hs)
  have H2 := Lib.hid (fun (W1 : World) (h : Below W.heap.size W W1) => contains_ac W1 _ l (hs.later h))
  have HR := Lib.hid (show rightS l = (decide (l.length ≤ 200) && (upsB l && l.all (fun x => !strayB x))) from rfl)
  generalize rightS l = rb at *
  generalize upsB l = pb at *
  generalize l.all (fun x => !strayB x) = ab at *
  generalize l.length = n at *
  clear hs
  have hn0 : (n : Int) ≤ 9223372036854775807 := by omega
  clear hnc hcm
  by_cases h2 : n ≤ 200
  · have h2I : (n : Int) ≤ 200 := by omega
    rw [decide_eq_true h2] at HR
    clear h2
    go_enter Tryz.func12, Tryz.ntmps12
    go_wp2_with fail
    refine H1.out.mono ?_
    rintro _ W1 ⟨rfl, q1⟩
    have H3 := Lib.hid (H2.out W1 q1)
    have Q := Lib.hid q1
    clear q1 H1 H2
    cases pb
    · go_wp2_with fail
      go_ret
      exact ⟨by rw [HR.out]; rfl, Q.out⟩
    · go_wp2_with fail
      refine H3.out.mono ?_
      rintro _ W2 ⟨rfl, q2⟩
      have Q2 := Lib.hid (Q.out.trans (q2.mono Q.out.size))
      clear q2 H3 Q
      go_wp2_with fail
      go_ret
      exact ⟨by rw [HR.out]; cases ab <;> rfl, Q2.out⟩
  · have h2I : ¬ (n : Int) ≤ 200 := by omega
    rw [decide_eq_false h2] at HR
    clear h2 H1 H2
    go_enter Tryz.func12, Tryz.ntmps12
    go_wp2_with fail
    go_ret
    exact ⟨by rw [HR.out]; rfl, Below.refl _ _⟩
end Go.Proofs.YtadfkiebblmfkaaGreatDoor
