/- Part. -/
import Derived.Test.YtahjgllnfbejmaaG10
import Derived.Test.YtahjgllnfbejmaaRows
import Derived.ProofKit
import Derived.LaidMore
import Derived.OpenShut
import Derived.Stop.Joined
import Derived.ChangeSame
import Derived.Below
import Derived.Laws.IdiomArrays
import Derived.Test.YtahjgllnfbejmaaG03
import Derived.Deep.Slices
import Derived.ReadAgain
import Derived.Carry
import Derived.Test.YtahjgllnfbejmaaG04
set_option maxRecDepth 100000
set_option maxHeartbeats 16000000
namespace Go.Proofs.Ytahjgllnfbejmaa
section
open Go Go.RowKit
attribute [local go_sem] Oper.semAt_some Grows wide_fn
theorem keyN_may (c d : Int) : strayK (keyN c d) = false := by
 unfold keyN strayK
 split <;> simp
theorem keysN_may (zs : List (Int × Int)) : (keysN zs).any strayK = false := by
 rw [List.any_eq_false]
 intro x hx
 obtain ⟨p, _, rfl⟩ := List.mem_map.1 hx
 rw [show strayK (kfN p) = false from keyN_may _ _]
 decide
noncomputable def setN (zs : List (Int × Int)) : List Ky := setL (keysN zs)
theorem sets10_any (W : World) (v1 v2 : Value) (z1 z2 : List (Int × Int)) (h1 : RawAt W v1 z1) (h2 : RawAt W v2 z2) :
  Calls Try.prog 5 #[v1, v2] W fun e w' => ∃ x y, e = .returned (.agg #[x, y]) ∧ KeysAt w' x (setN z1) ∧ KeysAt w' y (setN z2) ∧ Below W.heap.size W w' := by
 obtain ⟨V, hV, hB, hq0⟩ := newBox W 24 #[.slice none 0 0, .slice none 0 0]
 have Q := hid hq0
 have HB := hid hB
 have K1 := hid (keys_any V v1 z1 (h1.later hq0))
 have K2 := hid (fun (X : World) (hX : Below V.heap.size V X) => keys_any X v2 z2 (h2.later (hq0.trans (hX.mono hq0.size))))
 obtain ⟨ra, rc, rfl, _, _⟩ := h1
 obtain ⟨sa, sc, rfl, _, _⟩ := h2
 clear hB hq0
 generalize z1.length = n1 at *
 generalize z2.length = n2 at *
 go_enter Try.func5, Try.ntmps5
 go_wp2_with fail
 clear hV
 refine K1.out.mono ?_
 rintro _ w1 ⟨v3, rfl, hr3, hb1⟩
 have hk3 := hr3.keys (keysN_ok z1)
 obtain ⟨a3, c3, hv3, _⟩ := hk3.shape
 subst hv3
 have K3 := hid hk3
 have Q1 := hid hb1
 clear hk3 hr3 hb1
 go_wp2_with fail
 refine (K2.out w1 Q1.out).mono ?_
 rintro _ w2 ⟨v4, rfl, hr4, hb2⟩
 have hk4 := hr4.keys (keysN_ok z2)
 obtain ⟨a4, c4, hv4, _⟩ := hk4.shape
 subst hv4
 have MK := hid (rmake_any w2 _ _ (keysN z1) (keysN z2) (K3.out.later hb2) hk4 (keysN_may z1) (keysN_may z2) (by have := keysN_len z1; omega) (by have := keysN_len z2; omega))
 have Q2 := hid (Q1.out.trans (hb2.mono Q1.out.size))
 clear hk4 hr4 hb2 K3
 generalize (keysN z1).length = m1 at *
 generalize (keysN z2).length = m2 at *
 go_wp2_with fail
 refine MK.out.mono ?_
 rintro _ w3 ⟨x5, y5, rfl, kx5, ky5, hb3⟩
 obtain ⟨ax, cx, ex, _⟩ := kx5.shape
 obtain ⟨ay, cy, ey, _⟩ := ky5.shape
 subst ex ey
 have KX := hid kx5
 have KY := hid ky5
 have Q3 := hid (Q2.out.trans (hb3.mono Q2.out.size))
 clear kx5 ky5 hb3 MK
 generalize hn3 : (setL (keysN z1)).length = n3 at *
 generalize hn4 : (setL (keysN z2)).length = n4 at *
 obtain ⟨W5, hW5, hBB, hqq⟩ := newBox w3 24 #[.slice ax n3 cx, .slice ay n4 cy]
 have Q5 := hid (Q3.out.trans (hqq.mono Q3.out.size))
 have d0 := hBB.cell 0 _ rfl
 have d1 := hBB.cell 1 _ rfl
 have b7 := HB.out.later Q5.out
 have y0 := b7.cell 0 _ rfl
 have y1 := b7.cell 1 _ rfl
 have f0 := b7.frozen 0
 have f1 := b7.frozen 1
 have hF := hid ((b7.set 0 (.slice ax n3 cx)).set 1 (.slice ay n4 cy))
 have QF := hid (((Q.out.trans (Q5.out.mono Q.out.size)).setCell (p := ⟨W.heap.size, 0, none⟩) (Nat.le_refl _) (.slice ax n3 cx)).setCell (p := ⟨W.heap.size, 1, none⟩) (Nat.le_refl _) (.slice ay n4 cy))
 have b7s : Has (W5.setCell ⟨W.heap.size, 0, none⟩ (.slice ax n3 cx)) W.heap.size 24 #[.slice ax n3 cx, .slice none 0 0] := b7.set 0 _
 have KA2 := hid (((KX.out.later hqq).away b7 0 (.slice ax n3 cx)).away b7s 1 (.slice ay n4 cy))
 have KB2 := hid (((KY.out.later hqq).away b7 0 (.slice ax n3 cx)).away b7s 1 (.slice ay n4 cy))
 have HLt := hid HB.out.lt
 clear b7s b7 hqq hBB
 go_wp2_with fail
 refine bodyPost_ret (results_sets rfl rfl hF.out) rfl ?_
 exact ⟨_, _, rfl, KA2.out, KB2.out, QF.out⟩
end
section
open Go Go.RowKit
end
section
open Go Go.RowKit
attribute [local go_sem] Oper.semAt_some Grows wide_fn
end
section
open Go Go.RowKit
end
section
open Go Go.RowKit
attribute [local go_sem] Oper.semAt_some Grows wide_fn
theorem infoSets : (Try.prog.info? 24).map (·.size) = some 2 := by kernel_rfl
theorem Has.setsLoad {W : World} {B : Nat} {x y : Value} (h : Has W B 24 #[x, y]) : (loadVar 24 ⟨B, 0, none⟩).run Try.prog W = .ok (.agg #[x, y]) W :=
 run_loadVar_row _ _ _ _ _ (0, 0) _ h Try.underlying24 rfl infoSets
theorem sets_load {Z : World} {B : Nat} {x y : Value} (h : Has Z B 24 #[x, y]) : ∀ z : World, Grows Z z → (loadVar 24 ⟨B, 0, none⟩).run Try.prog z = .ok (.agg #[x, y]) z := fun z hz => by
 obtain ⟨q, rfl⟩ := hz
 exact (h.later q.below).setsLoad
end
section
open Go Go.ChangeShapes Go.WideShapes Go.ChangeAt Go.RowKit
theorem ownNone : ownKnob Try.prog.godebug = none := by kernel_rfl
theorem cellsU64 : Try.prog.cellsOf 27 = 1 := by kernel_rfl
theorem cellsWord : Try.prog.cellsOf 29 = 4 := by kernel_rfl
theorem u64_of_wf {x : Int} (h : (Lit.int .u64 x).wf = true) : U64 x := by
 have := bounds_u64 h
 unfold U64; omega
theorem i64_of_wf {x : Int} (h : (Lit.int .i64 x).wf = true) : I64 x := by
 have := bounds_i64 h
 unfold I64; omega
end
section
open Go Go.ChangeShapes Go.WideShapes Go.ChangeAt Go.RowKit Go.Deep
theorem cellsI64 : Try.prog.cellsOf 3 = 1 := by kernel_rfl
theorem cellsPairI : Try.prog.cellsOf 54 = 2 := by kernel_rfl
theorem trod_pairI {H : Type} {enc : TypeId × Value → H} {P : Program} {w : World} {base : Nat} {spare : Nat → Bool} {held : Bool} {t e : TypeId} {fuel : Nat} {cs : List Value} {x : DataW H × List MemPlace} (ht : P.underlying t = some (.array 2 e)) (hce : P.cellsOf e = 1) (hcs : cs.length = 2)
  (h : DataW.trod enc P w base spare held fuel t cs = some x) :
  ∃ c0 c1 y0 y1 n, cs = [c0, c1] ∧ DataW.trod enc P w base spare held n e [c0] = some y0 ∧ DataW.trod enc P w base spare held n e [c1] = some y1 := by
 match cs, hcs with
 | [c0, c1], _ =>
  cases fuel with
  | zero => simp [DataW.trod] at h
  | succ n =>
   unfold DataW.trod at h
   rw [ht] at h
   have r2 : List.range 2 = [0, 1] := rfl
   simp [r2, hce] at h
   obtain ⟨_, h⟩ := h
   cases h0 : DataW.trod enc P w base spare held n e [c0] with
   | none => simp [h0] at h
   | some y0 =>
    cases h1 : DataW.trod enc P w base spare held n e [c1] with
    | none => simp [h0, h1] at h
    | some y1 => exact ⟨c0, c1, y0, y1, n, rfl, h0, h1⟩
theorem open_raw {H : Type} {enc : TypeId × Value → H} {W : World} {base b : Nat} {sp : Nat → Bool} {held : Bool} {v : Value} {d : DataW H} {ps : List MemPlace}
  (hval : Value.okWide Try.prog W .any base 32 v) (hd : DataW.Trod enc Try.prog W b sp held 32 v d ps) : ∃ zs, RawAt W v zs := by
 obtain ⟨a0, len, cap, rfl⟩ := okWide_slice Try.underlying32 hval
 obtain ⟨fuel, hf⟩ := hd
 rcases open_slice Try.underlying32 hf with ⟨hcs, _⟩ | ⟨a, len', cap', m, n, D, Pl, hcs, _, hl, hm, hmm, _, hi⟩
 ·simp [Value.cells] at hcs
  obtain ⟨rfl, rfl, rfl⟩ := hcs
  exact ⟨[], none, 0, rfl, by simp, by simp, fun i p hp => by simp at hp⟩
 ·simp [Value.cells] at hcs
  obtain ⟨rfl, rfl, rfl⟩ := hcs
  have hlm : len ≤ m := by rw [hmm]; split <;> omega
  have key : ∀ i, i < len → ∃ p : Int × Int, I64 p.1 ∧ I64 p.2 ∧ W.cell? (a.add (i * 2)) = some (.int .i64 p.1) ∧ W.cell? ((a.add (i * 2)).add 1) = some (.int .i64 p.2) := by
   intro i hil
   obtain ⟨cs', hc, ht⟩ := hi i (by omega)
   rw [cellsPairI] at hc
   obtain ⟨_, hcl, hat⟩ := World.cells?_some hc
   obtain ⟨c0, c1, y0, y1, n', rfl, t0, t1⟩ := trod_pairI Try.underlying54 cellsI64 hcl ht
   obtain ⟨x0, e0, rfl, w0⟩ := DataW.trod_int Try.underlying3 t0
   obtain ⟨x1, e1, rfl, w1⟩ := DataW.trod_int Try.underlying3 t1
   simp at e0 e1
   subst e0 e1
   have b0 := bounds_i64 w0
   have b1 := bounds_i64 w1
   refine ⟨(x0, x1), by unfold I64; omega, by unfold I64; omega, ?_, ?_⟩
   ·have := hat 0 (by simp)
    simpa [Addr.add] using this
   ·have := hat 1 (by simp)
    simpa using this
  have hch : ∃ f : Nat → Int × Int, ∀ i, i < len → I64 (f i).1 ∧ I64 (f i).2 ∧ W.cell? (a.add (i * 2)) = some (.int .i64 (f i).1) ∧ W.cell? ((a.add (i * 2)).add 1) = some (.int .i64 (f i).2) := by
   refine ⟨fun i => if h : i < len then Classical.choose (key i h) else (0, 0), fun i h => ?_⟩
   simp only [dif_pos h]
   exact Classical.choose_spec (key i h)
  obtain ⟨f, hf'⟩ := hch
  have hmax : maxLen ≤ 9223372036854775807 := by decide
  refine ⟨(List.range len).map f, some a, cap, by simp, by simpa using hl, by omega, fun i p hp => ?_⟩
  obtain ⟨hlt, he⟩ := List.getElem?_eq_some_iff.1 hp
  simp at hlt he
  subst he
  obtain ⟨g1, g2, g3, g4⟩ := hf' i hlt
  exact ⟨g1, g2, a, rfl, g3, g4⟩
theorem laidOutAll : laidOutB Try.prog = true := by kernel_rfl
theorem trodAll_below {H : Type} {enc : TypeId × Value → H} {W W' : World} (hb : Below W.heap.size W W') : ∀ {ts : List TypeId} {vs : List Value} {ds : List (DataW H)} {ps : List MemPlace},
  (∀ t ∈ ts, Try.prog.readableRec t = true ∧ t < Try.prog.types.size) → DataW.TrodAll enc Try.prog W 0 (fun _ => true) true ts vs ds ps → (∀ x ∈ ps, x.block < W.heap.size) →
  DataW.TrodAll enc Try.prog W' 0 (fun b => decide (b < W.heap.size)) true ts vs ds ps
 | [], [], [], _, _, h, _ => h
 | _ :: _, _ :: _, _ :: _, _, ht, ⟨p, q, h1, h2, e⟩, hs =>
  ⟨p, q, Below.trod laidOutAll (ht _ (List.mem_cons.2 (Or.inl rfl))).1 (ht _ (List.mem_cons.2 (Or.inl rfl))).2 h1 hb (fun x hx => hs x (by rw [e]; exact List.mem_append_left _ hx)),
   trodAll_below hb (fun t h => ht t (List.mem_cons.2 (Or.inr h))) h2 (fun x hx => hs x (by rw [e]; exact List.mem_append_right _ hx)), e⟩
theorem post_read {H : Type} {enc : TypeId × Value → H} {f : Func} {s : ChangeSpec} {W W' : World} {args : Array Value} {ds : List (DataW H)} {before : List MemPlace}
  (hW : DataW.Whole enc Try.prog f.params.toList s.vars false W args.toList ds [] before) (hvars : s.vars = []) (hft : f.resultTypes = #[4])
  (hfn : s.fn H ds = { results := [.lit (.bool true)], args := ds }) (hA : DataW.TrodAll enc Try.prog W 0 (fun _ => true) true f.params.toList args.toList ds before)
  (hts : (f.params.toList.all fun t => Try.prog.readableRec t && decide (t < Try.prog.types.size)) = true)
  (hb : Below W.heap.size W W') : s.post enc Try.prog f false true false false W args (.bool true) W' := by
 have e : (s.fn H (ds ++ [])) = { results := [.lit (.bool true)], args := ds } := by rw [List.append_nil]; exact hfn
 refine ⟨ds, [], before, [], before, [], hW, ?_, ?_, ?_, World.keptBut_mono (fun p hp => absurd hp (by simp)) (hb.frame (fun _ => False)), fun h => by cases h⟩
 ·rw [e, hft]
  exact trodAll_mk1 (shut_bool Try.underlying4 _)
 ·rw [e]
  exact trodAll_below hb (fun t ht => by
   have := List.all_eq_true.1 hts t ht
   simpa using this) hA (fun x hx => by simpa using hW.lt x hx)
 ·rw [e, hvars]
  rfl
end
section
open Go Go.ChangeShapes Go.WideShapes Go.ChangeAt Go.RowKit Go.Deep
set_option maxRecDepth 100000
theorem cellsU8 : Try.prog.cellsOf 5 = 1 := by kernel_rfl
theorem cellsAddr : Try.prog.cellsOf 26 = 20 := by kernel_rfl
theorem cellsBool1 : Try.prog.cellsOf 4 = 1 := by kernel_rfl
theorem cellsKey : Try.prog.cellsOf 31 = 25 := by kernel_rfl
theorem of_bytes : ∀ (m : Nat) (f : Nat → Nat), (∀ j, f j < 256) → ∃ n, n < 256 ^ m ∧ ∀ j, j < m → n / 256 ^ j % 256 = f j
 | 0, f, _ => ⟨0, by simp, fun j h => by omega⟩
 | m + 1, f, hf => by
  obtain ⟨n, hn, h⟩ := of_bytes m (fun j => f (j + 1)) (fun j => hf (j + 1))
  have h0 := hf 0
  refine ⟨f 0 + 256 * n, ?_, fun j hj => ?_⟩
  ·rw [Nat.pow_succ]; omega
  ·cases j with
   | zero => simp; omega
   | succ j =>
    rw [Nat.pow_succ', ← Nat.div_div_eq_div_mul, show (f 0 + 256 * n) / 256 = n by omega]
    exact h j (by omega)
theorem addr_of (cs : List Value) (hl : cs.length = 20) (h : ∀ i, i < 20 → ∃ b : Nat, b < 256 ∧ cs[i]? = some (.int .u8 (b : Int))) : ∃ n, n < 256 ^ 20 ∧ cs = adL n := by
 have hch : ∃ f : Nat → Nat, (∀ j, f j < 256) ∧ ∀ i, i < 20 → cs[i]? = some (.int .u8 ((f i : Nat) : Int)) := by
  refine ⟨fun i => if h' : i < 20 then Classical.choose (h i h') else 0, fun j => ?_, fun i hi => ?_⟩
  ·by_cases h' : j < 20
   ·simp only [dif_pos h']; exact (Classical.choose_spec (h j h')).1
   ·simp only [dif_neg h']; decide
  ·simp only [dif_pos hi]; exact (Classical.choose_spec (h i hi)).2
 obtain ⟨f, hf, hc⟩ := hch
 obtain ⟨n, hn, hb⟩ := of_bytes 20 (fun j => f (19 - j)) (fun j => hf _)
 refine ⟨n, hn, List.ext_getElem? fun i => ?_⟩
 by_cases hi : i < 20
 ·rw [hc i hi]
  have e := hb (19 - i) (by omega)
  rw [show 19 - (19 - i) = i by omega] at e
  rw [show (adL n)[i]? = some (.int .u8 ((adB n i : Nat) : Int)) by simp [adL, hi]]
  unfold adB
  rw [e]
 ·rw [List.getElem?_eq_none (by omega), List.getElem?_eq_none (by rw [adL_len]; omega)]
theorem trod_addr {H : Type} {enc : TypeId × Value → H} {w : World} {base : Nat} {sp : Nat → Bool} {held : Bool} {fuel : Nat} {cs : List Value} {x : DataW H × List MemPlace}
  (h : DataW.trod enc Try.prog w base sp held fuel 26 cs = some x) (hl : cs.length = 20) : ∃ n, n < 256 ^ 20 ∧ cs = adL n := by
 obtain ⟨xs, m, rfl, hx, hlen, hxl, hi⟩ := DataW.trod_array Try.underlying26 h
 refine addr_of cs hl fun i hi20 => ?_
 have h1 := hi i hi20
 rw [cellsU8, Nat.mul_one] at h1
 have hxs : i < xs.length := by omega
 rw [List.getElem?_eq_getElem hxs] at h1
 obtain ⟨x0, e0, hy, w0⟩ := DataW.trod_int Try.underlying5 h1
 have hci : i < cs.length := by omega
 have hd1 : (cs.drop i).take 1 = [cs[i]] := by
  rw [List.drop_eq_getElem_cons hci]; rfl
 rw [hd1] at e0
 have b0 := bounds_u8 w0
 refine ⟨x0.toNat, by omega, ?_⟩
 rw [List.getElem?_eq_getElem hci, Int.toNat_of_nonneg b0.1]
 simpa using e0
theorem trod_bool1 {H : Type} {enc : TypeId × Value → H} {w : World} {base : Nat} {sp : Nat → Bool} {held : Bool} {fuel : Nat} {c : Value} {x : DataW H × List MemPlace}
  (h : DataW.trod enc Try.prog w base sp held fuel 4 [c] = some x) : ∃ b, c = .bool b := by
 cases fuel with
 | zero => simp [DataW.trod] at h
 | succ n =>
  unfold DataW.trod at h
  rw [Try.underlying4] at h
  cases c <;> simp at h ⊢
theorem four_k (a b c d : Int) (ha : U64 a) (hb : U64 b) (hc : U64 c) (hd : U64 d) : ∃ n, W256 n ∧ lim n 0 = a ∧ lim n 1 = b ∧ lim n 2 = c ∧ lim n 3 = d := by
 obtain ⟨z, z0, z1, z2, z3⟩ : ∃ z : Nat → Int, z 0 = a ∧ z 1 = b ∧ z 2 = c ∧ z 3 = d := ⟨fun k => if k = 0 then a else if k = 1 then b else if k = 2 then c else d, rfl, rfl, rfl, rfl⟩
 subst z0 z1 z2 z3
 obtain ⟨g0, g1⟩ := num_lt z ha hb hc hd
 have en : num z = ((num z).toNat : Int) := (Int.toNat_of_nonneg g0).symm
 refine ⟨_, ?_, lim_num z (num z).toNat ha hb hc hd en⟩
 unfold W256
 rw [en] at g1
 exact Int.ofNat_lt.1 g1
theorem trod_word_k {H : Type} {enc : TypeId × Value → H} {w : World} {base : Nat} {sp : Nat → Bool} {held : Bool} {fuel : Nat} {c0 c1 c2 c3 : Value} {x : DataW H × List MemPlace}
  (h : DataW.trod enc Try.prog w base sp held fuel 29 [c0, c1, c2, c3] = some x) : ∃ n, W256 n ∧ c0 = .int .u64 (lim n 0) ∧ c1 = .int .u64 (lim n 1) ∧ c2 = .int .u64 (lim n 2) ∧ c3 = .int .u64 (lim n 3) := by
 obtain ⟨y0, y1, y2, y3, m, hx, hy0, hy1, hy2, hy3⟩ := trod_array4 Try.underlying29 cellsU64 h
 obtain ⟨x0, e0, rfl, w0⟩ := DataW.trod_int Try.underlying27 hy0
 obtain ⟨x1, e1, rfl, w1⟩ := DataW.trod_int Try.underlying27 hy1
 obtain ⟨x2, e2, rfl, w2⟩ := DataW.trod_int Try.underlying27 hy2
 obtain ⟨x3, e3, rfl, w3⟩ := DataW.trod_int Try.underlying27 hy3
 simp at e0 e1 e2 e3
 subst e0 e1 e2 e3
 obtain ⟨n, hn, h0, h1, h2, h3⟩ := four_k x0 x1 x2 x3 (u64_of_wf w0) (u64_of_wf w1) (u64_of_wf w2) (u64_of_wf w3)
 exact ⟨n, hn, by rw [h0], by rw [h1], by rw [h2], by rw [h3]⟩
theorem cut25 {α : Type} (l : List α) (h : l.length = 25) : ∃ (p : List α) (b c0 c1 c2 c3 : α), p.length = 20 ∧ l = p ++ [b, c0, c1, c2, c3] := by
 have hd : (l.drop 20).length = 5 := by rw [List.length_drop]; omega
 have e := (List.take_append_drop 20 l).symm
 generalize hq : l.drop 20 = q at *
 match q, hd with
 | [b, c0, c1, c2, c3], _ => exact ⟨l.take 20, b, c0, c1, c2, c3, by rw [List.length_take]; omega, e⟩
theorem trod_key {H : Type} {enc : TypeId × Value → H} {w : World} {base : Nat} {sp : Nat → Bool} {held : Bool} {fuel : Nat} {cs : List Value} {x : DataW H × List MemPlace}
  (h : DataW.trod enc Try.prog w base sp held fuel 31 cs = some x) (hl : cs.length = 25) : ∃ k : Ky, KyOk k ∧ cs = kyL k := by
 obtain ⟨p, b, c0, c1, c2, c3, hp, rfl⟩ := cut25 cs hl
 obtain ⟨ys, n, _, _, _, hyl, hg⟩ := DataW.trod_struct Try.underlying31 h
 have hA := cellsAddr
 have hB := cellsBool1
 have hW := cellsWord
 have h0 := hg 0 _ rfl
 have h1 := hg 1 _ rfl
 have h2 := hg 2 _ rfl
 have h0 : DataW.trod enc Try.prog w base sp held n 26 (((p ++ [b, c0, c1, c2, c3]).drop 0).take (Try.prog.cellsOf 26)) = ys[0]? := h0
 have h1 : DataW.trod enc Try.prog w base sp held n 4 (((p ++ [b, c0, c1, c2, c3]).drop 20).take (Try.prog.cellsOf 4)) = ys[1]? := h1
 have h2 : DataW.trod enc Try.prog w base sp held n 29 (((p ++ [b, c0, c1, c2, c3]).drop 21).take (Try.prog.cellsOf 29)) = ys[2]? := h2
 obtain ⟨y0, y1, y2, rfl⟩ : ∃ a b c, ys = [a, b, c] := by
  match ys, hyl with
  | [a, b, c], _ => exact ⟨a, b, c, rfl⟩
 have d0 : ((p ++ [b, c0, c1, c2, c3]).drop 0).take 20 = p := by simp [hp]
 have d1 : ((p ++ [b, c0, c1, c2, c3]).drop 20).take 1 = [b] := by simp [hp]
 have d2 : ((p ++ [b, c0, c1, c2, c3]).drop 21).take 4 = [c0, c1, c2, c3] := by
  have h21 : List.drop 21 p = [] := List.drop_eq_nil_of_le (by omega)
  simp [List.drop_append, hp, h21]
 rw [hA, d0] at h0
 rw [hB, d1] at h1
 rw [hW, d2] at h2
 obtain ⟨m, hm, rfl⟩ := trod_addr h0 hp
 obtain ⟨s, rfl⟩ := trod_bool1 h1
 obtain ⟨v, hv, rfl, rfl, rfl, rfl⟩ := trod_word_k h2
 exact ⟨⟨m, s, v⟩, ⟨hm, hv⟩, rfl⟩
theorem open_key {H : Type} {enc : TypeId × Value → H} {W : World} {base b : Nat} {sp : Nat → Bool} {held : Bool} {v : Value} {d : DataW H} {ps : List MemPlace}
  (hval : Value.okWide Try.prog W .any base 31 v) (hd : DataW.Trod enc Try.prog W b sp held 31 v d ps) : ∃ k, KyOk k ∧ v = .agg (kyC k) := by
 obtain ⟨cs, rfl, hsz⟩ := okWide_struct Try.underlying31 hval
 rw [cellsKey] at hsz
 obtain ⟨l⟩ := cs
 obtain ⟨fuel, hf⟩ := hd
 obtain ⟨k, hk, e⟩ := trod_key (cs := l) hf hsz
 subst e
 exact ⟨k, hk, rfl⟩
theorem trod_keys {H : Type} {enc : TypeId × Value → H} {W : World} {b : Nat} {sp : Nat → Bool} {held : Bool} {fuel : Nat} {v : Value} {d : DataW H × List MemPlace}
  (hf : DataW.trod enc Try.prog W b sp held fuel 22 [v] = some d) : ∃ l, KeysAt W v l := by
 rcases open_slice Try.underlying22 hf with ⟨hcs, _⟩ | ⟨a, len, cap, m, n, D, Pl, hcs, _, hl, hm, hmm, _, hi⟩
 ·simp at hcs
  subst hcs
  exact ⟨[], KeysAt.nil W⟩
 ·simp at hcs
  subst hcs
  have hlm : len ≤ m := by rw [hmm]; split <;> omega
  have key : ∀ i, i < len → ∃ y : Ky, KyOk y ∧ ∀ (j : Nat) (u : Value), (kyL y)[j]? = some u → W.cell? ((a.add (i * 25)).add j) = some u := by
   intro i hil
   obtain ⟨cs', hc, ht⟩ := hi i (by omega)
   rw [cellsKey] at hc
   obtain ⟨_, hcl, hat⟩ := World.cells?_some hc
   obtain ⟨y, h1, rfl⟩ := trod_key ht hcl
   refine ⟨y, h1, fun j u hj => ?_⟩
   have hj25 : j < 25 := by
    have := (List.getElem?_eq_some_iff.1 hj).1
    omega
   rw [hat j hj25]
   exact hj
  have hch : ∃ f : Nat → Ky, ∀ i, i < len → KyOk (f i) ∧ ∀ (j : Nat) (u : Value), (kyL (f i))[j]? = some u → W.cell? ((a.add (i * 25)).add j) = some u := by
   refine ⟨fun i => if h : i < len then Classical.choose (key i h) else ⟨0, false, 0⟩, fun i h => ?_⟩
   simp only [dif_pos h]
   exact Classical.choose_spec (key i h)
  obtain ⟨f, hf'⟩ := hch
  have hmax : maxLen ≤ 9223372036854775807 := by decide
  refine ⟨(List.range len).map f, some a, cap, by simp, by simpa using hl, by omega, fun x hx => ?_, fun i p hp => ?_⟩
  ·obtain ⟨i, hi', rfl⟩ := List.mem_map.1 hx
   exact (hf' i (List.mem_range.1 hi')).1
  ·obtain ⟨hlt, he⟩ := List.getElem?_eq_some_iff.1 hp
   simp at hlt he
   subst he
   exact ⟨a, rfl, (hf' i hlt).2⟩
theorem cellsKeys : Try.prog.cellsOf 22 = 1 := by kernel_rfl
theorem cellsSets : Try.prog.cellsOf 24 = 2 := by kernel_rfl
theorem open_sets {H : Type} {enc : TypeId × Value → H} {W : World} {base b : Nat} {sp : Nat → Bool} {held : Bool} {v : Value} {d : DataW H} {ps : List MemPlace}
  (hval : Value.okWide Try.prog W .any base 24 v) (hd : DataW.Trod enc Try.prog W b sp held 24 v d ps) : ∃ r s, SetsAt W v r s := by
 obtain ⟨cs, rfl, hsz⟩ := okWide_struct Try.underlying24 hval
 rw [cellsSets] at hsz
 obtain ⟨l⟩ := cs
 obtain ⟨x, y, rfl⟩ : ∃ x y, l = [x, y] := by
  match l, hsz with
  | [a, b], _ => exact ⟨a, b, rfl⟩
 obtain ⟨fuel, hf⟩ := hd
 have hf : DataW.trod enc Try.prog W b sp held fuel 24 [x, y] = some (d, ps) := hf
 obtain ⟨ys, n, _, _, _, hyl, hg⟩ := DataW.trod_struct Try.underlying24 hf
 have hC := cellsKeys
 have h0 := hg 0 _ rfl
 have h1 := hg 1 _ rfl
 have h0 : DataW.trod enc Try.prog W b sp held n 22 (([x, y].drop 0).take (Try.prog.cellsOf 22)) = ys[0]? := h0
 have h1 : DataW.trod enc Try.prog W b sp held n 22 (([x, y].drop 1).take (Try.prog.cellsOf 22)) = ys[1]? := h1
 rw [hC] at h0 h1
 obtain ⟨y0, y1, rfl⟩ : ∃ a b, ys = [a, b] := by
  match ys, hyl with
  | [a, b], _ => exact ⟨a, b, rfl⟩
 obtain ⟨r, hr⟩ := trod_keys (v := x) h0
 obtain ⟨s, hs⟩ := trod_keys (v := y) h1
 exact ⟨r, s, _, _, rfl, hr, hs⟩
end
section
open Go Go.RowKit
attribute [local go_sem] Oper.semAt_some Grows wide_fn
def amidB (x : Ky) (l : List Ky) : Bool := l.any fun y => decide (y = x)
theorem amid_next {x y : Ky} {l : List Ky} {k : Nat} (h : l[k]? = some y) : amidB x (l.take (k + 1)) = (amidB x (l.take k) || decide (y = x)) := by
 unfold amidB
 rw [List.take_add_one, h, List.any_append]
 simp
end
section
open Go Go.RowKit
attribute [local go_sem] Oper.semAt_some Grows wide_fn
end
section
open Go Go.RowKit
attribute [local go_sem] Oper.semAt_some Grows wide_fn
theorem rin_any (W : World) (sv : Value) (l : List Ky) (x : Ky) (hx : KyOk x) (hs : KeysAt W sv l) :
  Calls Try.prog 36 #[sv, .agg (kyC x)] W fun e w' => e = .returned (.bool (amidB x l)) ∧ Below W.heap.size W w' := by
 have hmx : Try.prog.follows .mixedOrders = true := by kernel_rfl
 have hB := Has.new W 31 (kyC x)
 have hq0 := newA W (.cells (kyC x) 31)
 obtain ⟨V, hV⟩ : ∃ V, W.alloc (.cells (kyC x) 31) = V := ⟨_, rfl⟩
 rw [hV] at hB hq0
 obtain ⟨a, cap, rfl, hnc, hcm⟩ := hs.shape
 have HS := hid (hs.later hq0)
 have HB := hid hB
 have Q := hid hq0
 obtain ⟨n, hn⟩ : ∃ n, l.length = n := ⟨_, rfl⟩
 rw [hn] at HS hnc ⊢
 have HN := hid hn
 have hlc := hid (Nat.le_trans hnc hcm)
 have HXO := hid hx
 have HYES := hid (show ∀ k, amidB x (l.take k) = true → amidB x l = true from fun k h => by
  obtain ⟨y, h1, h2⟩ := List.any_eq_true.1 h
  exact List.any_eq_true.2 ⟨y, List.mem_of_mem_take h1, h2⟩)
 have HEND := hid (show amidB x (l.take n) = amidB x l by rw [List.take_of_length_le (by omega)])
 obtain ⟨res, hres⟩ : ∃ b, amidB x l = b := ⟨_, rfl⟩
 rw [hres] at HYES HEND ⊢
 clear hB hq0 hs hnc hcm hn hx hres
 go_enter Try.func36, Try.ntmps36
 go_wp2_with fail
 clear hV
 go_loopw [5] (fun iv wr => ∃ k : Nat, iv = .int .i64 (k : Int) ∧ k ≤ n ∧ amidB x (l.take k) = false ∧ Below V.heap.size V wr) (fun iv _ => n - (intOf iv).toNat)
 case atStart => exact ⟨0, rfl, by omega, rfl, Below.refl _ _⟩
 case round =>
  obtain ⟨k, rfl, hk, hno, hq⟩ := hrel
  obtain ⟨V1, hV1⟩ : ∃ V1, V1 = wr := ⟨_, rfl⟩
  subst hV1
  have HQ := hid hq
  have HK := hid hk
  have HNO := hid hno
  have QW := hid (Q.out.trans (hq.mono Q.out.size))
  clear hq hno
  by_cases hkn : k < n
  ·have hknI : (k : Int) < (n : Int) := by omega
   have hk0 : (0 : Int) ≤ (k : Int) := by omega
   have hkb : (k : Int) ≤ 9223372036854775806 := by have := hlc.out; omega
   obtain ⟨y, hy⟩ : ∃ y, l[k]? = some y := ⟨_, List.getElem?_eq_getElem (by have := HN.out; omega)⟩
   have hnx := amid_next (x := x) hy
   rw [HNO.out, Bool.false_or] at hnx
   have HNX := hid hnx
   obtain ⟨b, rfl, ay⟩ := (HS.out.later HQ.out).at hy
   have LY := hid (show ∀ z : World, Grows V1 z → (loadVar 31 (b.add (k * 25))).run Try.prog z = .ok (.agg (kyC y)) z from fun z hz => by obtain ⟨q, rfl⟩ := hz; exact (ay.later q.below).load)
   have LX := hid (show ∀ z : World, Grows V1 z → (loadVar 31 ⟨W.heap.size, 0, none⟩).run Try.prog z = .ok (.agg (kyC x)) z from fun z hz => by obtain ⟨q, rfl⟩ := hz; exact ((HB.out.later HQ.out).later q.below).kyLoad)
   have E := fun w : World => eqKey y x (HS.out.ok hy) HXO.out w
   have HKK := hid hkn
   clear hkn hk ay hy hnx
   obtain ⟨et, het⟩ : ∃ et, decide (y = x) = et := ⟨_, rfl⟩
   rw [het] at HNX E
   clear het
   generalize kyC y = cy at *
   generalize kyC x = cx at *
   go_wp2_with fail
   refine wp_region_quietL (C := Grows V1) hmx (by kernel_rfl) (grows_refl V1) ?_
   repeat (first | (with_reducible refine wpQuiet_load rfl 31 _ rfl _ rfl _ LY.out ?_; simp only [Act.put, sT, sS, sZ]) | (with_reducible refine wpQuiet_load rfl 31 _ rfl _ rfl _ LX.out ?_; simp only [Act.put, sT, sS, sZ]) | (go_big_quiet_step (fail)))
   refine wpQuiet_nil ?_
   rintro _ ⟨z, rfl⟩
   have HE := hid (HQ.out.trans (z.below.mono HQ.out.size))
   have QE := hid (QW.out.trans (z.below.mono QW.out.size))
   clear LX LY E
   cases et
   ·go_wp2_with fail
    go_roundw
    case rel => exact ⟨k + 1, by simp, by have := HKK.out; omega, HNX.out, HE.out⟩
    case measure => have := HKK.out; simp [intOf]; omega
   ·have hy := hid (HYES.out _ HNX.out)
    go_wp2_with fail
    go_ret
    exact ⟨by rw [hy.out]; rfl, QE.out⟩
  ·obtain rfl : k = n := by have := HK.out; omega
   have hnn : ¬ (k : Int) < (k : Int) := by omega
   have he0 := HEND.out
   rw [HNO.out] at he0
   have he := hid he0
   clear he0
   go_wp2_with fail
   go_ret
   exact ⟨by rw [← he.out]; rfl, QW.out⟩
theorem rMay_any (W : World) (v : Value) (r s : List Ky) (k : Ky) (b : Bool) (hk : KyOk k) (hs : SetsAt W v r s) :
  Calls Try.prog 17 #[v, .agg (kyC k), .bool b] W fun e w' => e = .returned (.bool (amidB k s || (!b && amidB k r))) ∧ Below W.heap.size W w' := by
 obtain ⟨a1, c1, a2, c2, rfl, k1, k2⟩ := hs.shapes
 have h0 := (Has.new W 24 #[.slice a1 r.length c1, .slice a2 s.length c2]).alloc (.cells (kyC k) 31)
 have h1 := Has.new (W.alloc (.cells #[.slice a1 r.length c1, .slice a2 s.length c2] 24)) 31 (kyC k)
 simp only [World.size_alloc] at h1
 have q0 := (newA W (.cells #[.slice a1 r.length c1, .slice a2 s.length c2] 24)).alloc (by simp) (.cells (kyC k) 31)
 obtain ⟨V, hV⟩ : ∃ V, (W.alloc (.cells #[.slice a1 r.length c1, .slice a2 s.length c2] 24)).alloc (.cells (kyC k) 31) = V := ⟨_, rfl⟩
 rw [hV] at h0 h1 q0
 have I1 := hid (fun (X : World) (hX : Below V.heap.size V X) => rin_any X _ s k hk (k2.later (q0.trans (hX.mono q0.size))))
 have I2 := hid (fun (X : World) (hX : Below V.heap.size V X) => rin_any X _ r k hk (k1.later (q0.trans (hX.mono q0.size))))
 have LX := hid (fun (X : World) (hX : Below V.heap.size V X) => (h1.later hX).kyLoad)
 have HB := hid h0
 have Q := hid q0
 have R := hid (Below.refl V.heap.size V)
 have b1 := h0.cell 1 _ rfl
 clear h0 h1 q0 k1 k2 hs hk
 generalize amidB k s = p at *
 generalize amidB k r = q at *
 generalize r.length = n1 at *
 generalize s.length = n2 at *
 generalize kyC k = ck at *
 have L0 := hid (LX.out V R.out)
 cases p
 ·go_enter Try.func17, Try.ntmps17
  go_wp2_with (refine wpList_load_known rfl _ (.tmp 4) rfl _ rfl _ L0.out ?_)
  clear L0 b1
  refine (I1.out V R.out).mono ?_
  rintro _ w1 ⟨rfl, hb1⟩
  have QE := hid (Q.out.trans (hb1.mono Q.out.size))
  have b0 := (HB.out.later hb1).cell 0 _ rfl
  have L1 := hid (LX.out w1 hb1)
  have R1 := hid hb1
  clear hb1
  cases b
  ·go_wp2_with (refine wpList_load_known rfl _ (.tmp 4) rfl _ rfl _ L1.out ?_)
   clear L1 b0
   refine (I2.out w1 R1.out).mono ?_
   rintro _ w2 ⟨rfl, hb2⟩
   have QF := hid (QE.out.trans (hb2.mono QE.out.size))
   go_wp2_with fail
   go_ret
   exact ⟨by simp, QF.out⟩
  ·go_wp2_with fail
   go_ret
   exact ⟨by simp, QE.out⟩
 ·go_enter Try.func17, Try.ntmps17
  go_wp2_with (refine wpList_load_known rfl _ (.tmp 4) rfl _ rfl _ L0.out ?_)
  clear L0 b1
  refine (I1.out V R.out).mono ?_
  rintro _ w1 ⟨rfl, hb1⟩
  have QE := hid (Q.out.trans (hb1.mono Q.out.size))
  go_wp2_with fail
  go_ret
  exact ⟨by simp, QE.out⟩
def oneB (l r s : List Ky) : Bool := l.any fun y => amidB y r || amidB y s
theorem one_next {y : Ky} {l r s : List Ky} {k : Nat} (h : l[k]? = some y) : oneB (l.take (k + 1)) r s = (oneB (l.take k) r s || (amidB y r || amidB y s)) := by
 unfold oneB
 rw [List.take_add_one, h, List.any_append]
 simp
theorem rone_any (W : World) (lv v : Value) (l r s : List Ky) (hl : KeysAt W lv l) (hs : SetsAt W v r s) :
  Calls Try.prog 40 #[lv, v] W fun e w' => e = .returned (.bool (oneB l r s)) ∧ Below W.heap.size W w' := by
 have hmx : Try.prog.follows .mixedOrders = true := by kernel_rfl
 obtain ⟨a1, c1, a2, c2, rfl, k1, k2⟩ := hs.shapes
 obtain ⟨V, hV, hB, hq0⟩ := newBox W 24 #[.slice a1 r.length c1, .slice a2 s.length c2]
 obtain ⟨a, cap, rfl, hnc, hcm⟩ := hl.shape
 have HS := hid (hl.later hq0)
 have KA := hid (k1.later hq0)
 have KB := hid (k2.later hq0)
 have HB := hid hB
 have Q := hid hq0
 obtain ⟨n, hn⟩ : ∃ n, l.length = n := ⟨_, rfl⟩
 rw [hn] at HS hnc ⊢
 have HN := hid hn
 have hlc := hid (Nat.le_trans hnc hcm)
 have HYES := hid (show ∀ k, oneB (l.take k) r s = true → oneB l r s = true from fun k h => by
  obtain ⟨y, h1, h2⟩ := List.any_eq_true.1 h
  exact List.any_eq_true.2 ⟨y, List.mem_of_mem_take h1, h2⟩)
 have HEND := hid (show oneB (l.take n) r s = oneB l r s by rw [List.take_of_length_le (by omega)])
 obtain ⟨res, hres⟩ : ∃ b, oneB l r s = b := ⟨_, rfl⟩
 rw [hres] at HYES HEND ⊢
 clear hB hq0 hl hs hnc hcm hn hres k1 k2
 obtain ⟨n1, hn1⟩ : ∃ n, r.length = n := ⟨_, rfl⟩
 obtain ⟨n2, hn2⟩ : ∃ n, s.length = n := ⟨_, rfl⟩
 rw [hn1] at KA HB hV ⊢
 rw [hn2] at KB HB hV ⊢
 clear hn1 hn2
 go_enter Try.func40, Try.ntmps40
 go_wp2_with fail
 clear hV
 go_loopw [5] (fun iv wr => ∃ k : Nat, iv = .int .i64 (k : Int) ∧ k ≤ n ∧ oneB (l.take k) r s = false ∧ Below V.heap.size V wr) (fun iv _ => n - (intOf iv).toNat)
 case atStart => exact ⟨0, rfl, by omega, rfl, Below.refl _ _⟩
 case round =>
  obtain ⟨k, rfl, hk, hno, hq⟩ := hrel
  obtain ⟨V1, hV1⟩ : ∃ V1, V1 = wr := ⟨_, rfl⟩
  subst hV1
  have HQ := hid hq
  have HK := hid hk
  have HNO := hid hno
  have QW := hid (Q.out.trans (hq.mono Q.out.size))
  clear hq hno
  by_cases hkn : k < n
  ·have hknI : (k : Int) < (n : Int) := by omega
   have hk0 : (0 : Int) ≤ (k : Int) := by omega
   have hkb : (k : Int) ≤ 9223372036854775806 := by have := hlc.out; omega
   obtain ⟨y, hy⟩ : ∃ y, l[k]? = some y := ⟨_, List.getElem?_eq_getElem (by have := HN.out; omega)⟩
   have hnx := one_next (r := r) (s := s) hy
   rw [HNO.out, Bool.false_or] at hnx
   have HNX := hid hnx
   obtain ⟨b, rfl, ay⟩ := (HS.out.later HQ.out).at hy
   have LY := hid (show ∀ z : World, Grows V1 z → (loadVar 31 (b.add (k * 25))).run Try.prog z = .ok (.agg (kyC y)) z from fun z hz => by obtain ⟨q, rfl⟩ := hz; exact (ay.later q.below).load)
   have b0 : ∀ z : Ext V1, z.w.cell? ⟨W.heap.size, 0, none⟩ = some (.slice a1 n1 c1) := fun z => ((HB.out.later HQ.out).later z.below).cell 0 _ rfl
   have b1 : ∀ z : Ext V1, z.w.cell? ⟨W.heap.size, 1, none⟩ = some (.slice a2 n2 c2) := fun z => ((HB.out.later HQ.out).later z.below).cell 1 _ rfl
   have I1 := hid (fun z : Ext V1 => Ext.atK (rin_any z.w _ r y (HS.out.ok hy) ((KA.out.later HQ.out).later z.below)))
   have I2 := hid (fun z : Ext V1 => Ext.atK (rin_any z.w _ s y (HS.out.ok hy) ((KB.out.later HQ.out).later z.below)))
   have HKK := hid hkn
   clear hkn hk ay hy hnx
   generalize amidB y r = p at *
   generalize amidB y s = q at *
   generalize kyC y = cy at *
   cases p <;> cases q
   all_goals (
    go_wp2_with fail
    refine wp_region_quietL (C := Grows V1) hmx (by kernel_rfl) (grows_refl V1) ?_
    repeat (first | (with_reducible refine wpQuiet_load rfl 31 _ rfl _ rfl _ LY.out ?_; simp only [Act.put, sT, sS, sZ]) | (go_big_quiet_step (first | (with_reducible exact I1.out _) | (with_reducible exact I2.out _))))
    refine wpQuiet_nil ?_
    rintro _ ⟨z, rfl⟩
    have HE := hid (HQ.out.trans (z.below.mono HQ.out.size))
    have QE := hid (QW.out.trans (z.below.mono QW.out.size))
    clear LY I1 I2 b0 b1)
   ·go_wp2_with fail
    go_roundw
    case rel => exact ⟨k + 1, by simp, by have := HKK.out; omega, HNX.out, HE.out⟩
    case measure => have := HKK.out; simp [intOf]; omega
   ·have hy := hid (HYES.out _ HNX.out)
    go_wp2_with fail
    go_ret
    exact ⟨by rw [hy.out]; rfl, QE.out⟩
   ·have hy := hid (HYES.out _ HNX.out)
    go_wp2_with fail
    go_ret
    exact ⟨by rw [hy.out]; rfl, QE.out⟩
   ·have hy := hid (HYES.out _ HNX.out)
    go_wp2_with fail
    go_ret
    exact ⟨by rw [hy.out]; rfl, QE.out⟩
  ·obtain rfl : k = n := by have := HK.out; omega
   have hnn : ¬ (k : Int) < (k : Int) := by omega
   have he0 := HEND.out
   rw [HNO.out] at he0
   have he := hid he0
   clear he0
   go_wp2_with fail
   go_ret
   exact ⟨by rw [← he.out]; rfl, QW.out⟩
theorem rclash_any (W : World) (v1 v2 : Value) (r s r2 s2 : List Ky) (hs1 : SetsAt W v1 r s) (hs2 : SetsAt W v2 r2 s2) :
  Calls Try.prog 21 #[v1, v2] W fun e w' => e = .returned (.bool (oneB s r2 s2 || oneB s2 r s)) ∧ Below W.heap.size W w' := by
 obtain ⟨a1, c1, a2, c2, rfl, k1, k2⟩ := hs1.shapes
 obtain ⟨a3, c3, a4, c4, rfl, k3, k4⟩ := hs2.shapes
 have h0 := (Has.new W 24 #[.slice a1 r.length c1, .slice a2 s.length c2]).alloc (.cells #[.slice a3 r2.length c3, .slice a4 s2.length c4] 24)
 have h1 := Has.new (W.alloc (.cells #[.slice a1 r.length c1, .slice a2 s.length c2] 24)) 24 #[.slice a3 r2.length c3, .slice a4 s2.length c4]
 simp only [World.size_alloc] at h1
 have q0 := (newA W (.cells #[.slice a1 r.length c1, .slice a2 s.length c2] 24)).alloc (by simp) (.cells #[.slice a3 r2.length c3, .slice a4 s2.length c4] 24)
 obtain ⟨V, hV⟩ : ∃ V, (W.alloc (.cells #[.slice a1 r.length c1, .slice a2 s.length c2] 24)).alloc (.cells #[.slice a3 r2.length c3, .slice a4 s2.length c4] 24) = V := ⟨_, rfl⟩
 rw [hV] at h0 h1 q0
 have O1 := hid (fun (X : World) (hX : Below V.heap.size V X) => rone_any X _ _ s r2 s2 (k2.later (q0.trans (hX.mono q0.size))) ⟨_, _, rfl, k3.later (q0.trans (hX.mono q0.size)), k4.later (q0.trans (hX.mono q0.size))⟩)
 have O2 := hid (fun (X : World) (hX : Below V.heap.size V X) => rone_any X _ _ s2 r s (k4.later (q0.trans (hX.mono q0.size))) ⟨_, _, rfl, k1.later (q0.trans (hX.mono q0.size)), k2.later (q0.trans (hX.mono q0.size))⟩)
 have HA := hid h0
 have HB := hid h1
 have Q := hid q0
 have R := hid (Below.refl V.heap.size V)
 have e1 := h0.cell 1 _ rfl
 have f0 := h1.cell 0 _ rfl
 have f1 := h1.cell 1 _ rfl
 clear h0 h1 q0 k1 k2 k3 k4 hs1 hs2
 generalize oneB s r2 s2 = p at *
 generalize oneB s2 r s = q at *
 generalize r.length = n1 at *
 generalize s.length = n2 at *
 generalize r2.length = n3 at *
 generalize s2.length = n4 at *
 cases p
 ·go_enter Try.func21, Try.ntmps21
  go_wp2_with fail
  clear e1 f0 f1
  refine (O1.out V R.out).mono ?_
  rintro _ w1 ⟨rfl, hb1⟩
  have QE := hid (Q.out.trans (hb1.mono Q.out.size))
  have e0 := (HA.out.later hb1).cell 0 _ rfl
  have e1 := (HA.out.later hb1).cell 1 _ rfl
  have f1 := (HB.out.later hb1).cell 1 _ rfl
  have R1 := hid hb1
  clear hb1
  go_wp2_with fail
  clear e0 e1 f1
  refine (O2.out w1 R1.out).mono ?_
  rintro _ w2 ⟨rfl, hb2⟩
  have QF := hid (QE.out.trans (hb2.mono QE.out.size))
  go_wp2_with fail
  go_ret
  exact ⟨by simp, QF.out⟩
 ·go_enter Try.func21, Try.ntmps21
  go_wp2_with fail
  clear e1 f0 f1
  refine (O1.out V R.out).mono ?_
  rintro _ w1 ⟨rfl, hb1⟩
  have QE := hid (Q.out.trans (hb1.mono Q.out.size))
  go_wp2_with fail
  go_ret
  exact ⟨by simp, QE.out⟩
end
end Go.Proofs.Ytahjgllnfbejmaa
