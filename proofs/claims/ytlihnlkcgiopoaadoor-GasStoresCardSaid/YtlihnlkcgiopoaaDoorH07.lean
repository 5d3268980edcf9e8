/- Part. -/
import Derived.Great.BuildSlice
import Derived.Test.YtlihnlkcgiopoaaDoorH05
import Derived.Test.YtlihnlkcgiopoaaDoorH06
import Derived.Test.YtlihnlkcgiopoaaDoorRows
import Derived.ProofKit
import Derived.LaidMore
import Derived.OpenShut
import Derived.Stop.Joined
import Derived.ChangeSame
import Derived.Below
import Derived.Deep.Slices
import Derived.ReadAgain
import Derived.Carry
set_option maxRecDepth 100000
set_option maxHeartbeats 16000000
namespace Go.Proofs.YtlihnlkcgiopoaaDoor
section
open Go Go.RowKit
attribute [local go_sem] Oper.semAt_some Grows wide_fn eq4
theorem wv_natG (n : Nat) (h : n < 18446744073709551616) : wv n = .agg #[.int .u64 (n : Int), .int .u64 0, .int .u64 0, .int .u64 0] := by
 refine wv_of ⟨?_, ?_, ?_, ?_⟩
 ·show ((n % 18446744073709551616 : Nat) : Int) = _
  rw [Nat.mod_eq_of_lt h]
 ·show ((n / 18446744073709551616 % 18446744073709551616 : Nat) : Int) = _
  rw [Nat.div_eq_of_lt h]; rfl
 ·show ((n / 340282366920938463463374607431768211456 % 18446744073709551616 : Nat) : Int) = _
  rw [Nat.div_eq_of_lt (by omega)]; rfl
 ·show ((n / 6277101735386680763835789423207666416102355444464034512896 % 18446744073709551616 : Nat) : Int) = _
  rw [Nat.div_eq_of_lt (by omega)]; rfl
theorem ofRG (n : Nat) (h : n ≤ 9223372036854775807) : Ret Tryd.prog 23 #[.int .i64 (n : Int)] (.agg #[.int .u64 (n : Int), .int .u64 0, .int .u64 0, .int .u64 0]) := by
 have h1 := refOf_ret (n : Int) (by unfold I64; omega)
 rw [ofN_nat, wv_natG n (by omega)] at h1
 exact h1
theorem fill_k1G (x : Ky) (cells : Array Value) (h : cells.size = 25) : Instr.fill (fun i => some (i * 25, 25)) cells [(0, .agg (kyC x))] = some (flatKy [x]).toArray := by
 have := Great.fill_whole (s := 25) (by decide) [.agg (kyC x)] cells (fun v hv => by
  simp at hv
  subst hv
  exact kyC_size x) (by simp [h])
 simpa [Value.cells, flatKy, kyC] using this
theorem infoKzG : ∃ i z, Tryd.prog.info? 58 = some i ∧ i.zero = some z ∧ i.size = 25 := by
 obtain ⟨i, hi, hz, hs⟩ := infoK_of
 exact ⟨i, _, hi, hz, hs.1⟩
theorem wpList_build_k1G {ops : Array Oper} {rest : List Oper} {o : Oper} {a : Act} {w : World} {Q : Exit → Act → World → Prop} (hw : Region.wanted o (yielded ops a.tmps) = true) (y : Operand) (ho : o.op = .buildSlice 28 1 #[(0, y)]) (x : Ky) (hy : a.eval y = .agg (kyC x))
  (h : wpList Tryd.prog ops Q rest (a.put o.dst (.slice (some ⟨w.heap.size, 0, none⟩) 1 1)) (w.alloc (.cells (flatKy [x]).toArray 58))) : wpList Tryd.prog ops Q (o :: rest) a w := by
 obtain ⟨i, z, hi, hz, hsz⟩ := infoKzG
 refine BigFrame.wpList_want hw fun K hK => wp_buildSlice 28 58 1 #[(0, y)] ho (flatKy [x]).toArray i z Tryd.underlying28 hi hz (by rw [hsz]; decide) (by rw [hsz]; decide) ?_ (hK _ _ h)
 rw [hsz]
 simp only [List.map_toArray, List.map_cons, List.map_nil, hy]
 exact fill_k1G x _ (by simp)
def kyNone : Ky := ⟨0, false, 0⟩
theorem kyNone_ok : KyOk kyNone := ⟨by decide, by show W256 0; unfold W256; decide⟩
theorem kyNone_cells : (.agg #[.int .u8 0, .int .u8 0, .int .u8 0, .int .u8 0, .int .u8 0, .int .u8 0, .int .u8 0, .int .u8 0, .int .u8 0, .int .u8 0, .int .u8 0, .int .u8 0, .int .u8 0, .int .u8 0, .int .u8 0, .int .u8 0, .int .u8 0, .int .u8 0, .int .u8 0, .int .u8 0, .bool false, .int .u64 0, .int .u64 0, .int .u64 0, .int .u64 0] : Value) = .agg (kyC kyNone) := by rfl
theorem keys_one (w : World) (x : Ky) (hx : KyOk x) : KeysAt (w.alloc (.cells (flatKy [x]).toArray 58)) (.slice (some ⟨w.heap.size, 0, none⟩) 1 1) [x] := by
 refine ⟨some ⟨w.heap.size, 0, none⟩, 1, rfl, by simp, by decide, fun y hy => by rw [List.mem_singleton.1 hy]; exact hx, fun i y hy => ?_⟩
 refine ⟨⟨w.heap.size, 0, none⟩, rfl, fun j u hj => ?_⟩
 have hi : i = 0 := by
  have := (List.getElem?_eq_some_iff.1 hy).1
  simpa using this
 subst hi
 simp at hy
 subst hy
 rw [Nat.zero_mul, add_lit, add_lit]
 refine (Has.new w 58 (flatKy [x]).toArray).cell _ _ ?_
 simp only [Nat.zero_add, List.getElem?_toArray]
 rw [show flatKy [x] = kyL x by simp [flatKy]]
 exact hj
theorem awakeG_walk  (o0 : Ret Tryd.prog 23 #[.int .i64 0] (.agg #[.int .u64 0, .int .u64 0, .int .u64 0, .int .u64 0])) (o1 : Ret Tryd.prog 23 #[.int .i64 1] (.agg #[.int .u64 1, .int .u64 0, .int .u64 0, .int .u64 0])) (om : Ret Tryd.prog 23 #[.int .i64 (-1)] (.agg #[.int .u64 18446744073709551615, .int .u64 18446744073709551615, .int .u64 18446744073709551615, .int .u64 18446744073709551615])) (o256 : Ret Tryd.prog 23 #[.int .i64 256] (.agg #[.int .u64 256, .int .u64 0, .int .u64 0, .int .u64 0])) (s1 : Ret Tryd.prog 21 #[.agg #[.int .u64 0, .int .u64 0, .int .u64 0, .int .u64 0], .agg #[.int .u64 0, .int .u64 0, .int .u64 0, .int .u64 0], .agg #[.int .u64 1, .int .u64 0, .int .u64 0, .int .u64 0], .bool true] (.tuple #[.int .i64 20000, .int .i64 0])) (s2 : Ret Tryd.prog 21 #[.agg #[.int .u64 0, .int .u64 0, .int .u64 0, .int .u64 0], .agg #[.int .u64 1, .int .u64 0, .int .u64 0, .int .u64 0], .agg #[.int .u64 0, .int .u64 0, .int .u64 0, .int .u64 0], .bool true] (.tuple #[.int .i64 100, .int .i64 19900])) (c1 : Ret Tryd.prog 24 #[.int .i64 6500, .agg #[.int .u64 18446744073709551615, .int .u64 18446744073709551615, .int .u64 18446744073709551615, .int .u64 18446744073709551615], .bool true, .bool false, .bool false] (.tuple #[.int .i64 6400, .int .i64 6300, .bool true])) (c2 : Ret Tryd.prog 24 #[.int .i64 99, .agg #[.int .u64 1, .int .u64 0, .int .u64 0, .int .u64 0], .bool true, .bool false, .bool false] (.tuple #[.int .i64 0, .int .i64 0, .bool false])) (ex : Ret Tryd.prog 27 #[.agg #[.int .u64 256, .int .u64 0, .int .u64 0, .int .u64 0]] (.int .i64 100)) (cp : Ret Tryd.prog 11 #[.int .i64 33] (.int .i64 6)) (ha : Ret Tryd.prog 13 #[.int .i64 1] (.int .i64 6)) (lo : Ret Tryd.prog 15 #[.int .i64 5] (.int .i64 40)) (ini : Ret Tryd.prog 17 #[.int .i64 32, .bool true] (.int .i64 8)) (to : Ret Tryd.prog 29 #[.bool true, .bool false] (.int .i64 2100)) (sta : Ret Tryd.prog 31 #[.string ⟨#[0, 97]⟩, .bool true] (.int .i64 53022)) (ba : Ret Tryd.prog 19 #[.int .i64 100, .int .i64 50] (.int .i64 20)) :
  Ret Tryd.prog 9 #[] (.bool true) := by
 intro w
 have Ho0 := hid o0
 have Ho1 := hid o1
 have Hom := hid om
 have Ho256 := hid o256
 have Hs1 := hid s1
 have Hs2 := hid s2
 have Hc1 := hid c1
 have Hc2 := hid c2
 have Hex := hid ex
 have Hcp := hid cp
 have Hha := hid ha
 have Hlo := hid lo
 have Hini := hid ini
 have Hto := hid to
 have Hsta := hid sta
 have Hba := hid ba
 clear o0 o1 om o256 s1 s2 c1 c2 ex cp ha lo ini to sta ba
 go_enter Tryd.func9, Tryd.ntmps9
 go_wp2_with fail
 refine (Ho0.out _).mono ?_
 rintro e v1 ⟨rfl, q⟩
 have Q := q
 clear q
 go_wp2_with fail
 refine (Ho0.out _).mono ?_
 rintro e v2 ⟨rfl, q⟩
 have Q := Q.trans (q.mono Q.size)
 clear q
 go_wp2_with fail
 refine (Ho1.out _).mono ?_
 rintro e v3 ⟨rfl, q⟩
 have Q := Q.trans (q.mono Q.size)
 clear q
 go_wp2_with fail
 refine (Hs1.out _).mono ?_
 rintro e v4 ⟨rfl, q⟩
 have Q := Q.trans (q.mono Q.size)
 clear q
 go_wp2_with fail
 refine (Ho0.out _).mono ?_
 rintro e v5 ⟨rfl, q⟩
 have Q := Q.trans (q.mono Q.size)
 clear q
 go_wp2_with fail
 refine (Ho1.out _).mono ?_
 rintro e v6 ⟨rfl, q⟩
 have Q := Q.trans (q.mono Q.size)
 clear q
 go_wp2_with fail
 refine (Ho0.out _).mono ?_
 rintro e v7 ⟨rfl, q⟩
 have Q := Q.trans (q.mono Q.size)
 clear q
 go_wp2_with fail
 refine (Hs2.out _).mono ?_
 rintro e v8 ⟨rfl, q⟩
 have Q := Q.trans (q.mono Q.size)
 clear q
 go_wp2_with fail
 refine (Hom.out _).mono ?_
 rintro e v9 ⟨rfl, q⟩
 have Q := Q.trans (q.mono Q.size)
 clear q
 go_wp2_with fail
 refine (Hc1.out _).mono ?_
 rintro e v10 ⟨rfl, q⟩
 have Q := Q.trans (q.mono Q.size)
 clear q
 go_wp2_with fail
 refine (Ho1.out _).mono ?_
 rintro e v11 ⟨rfl, q⟩
 have Q := Q.trans (q.mono Q.size)
 clear q
 go_wp2_with fail
 refine (Hc2.out _).mono ?_
 rintro e v12 ⟨rfl, q⟩
 have Q := Q.trans (q.mono Q.size)
 clear q
 go_wp2_with fail
 refine (Ho256.out _).mono ?_
 rintro e v13 ⟨rfl, q⟩
 have Q := Q.trans (q.mono Q.size)
 clear q
 go_wp2_with fail
 refine (Hex.out _).mono ?_
 rintro e v14 ⟨rfl, q⟩
 have Q := Q.trans (q.mono Q.size)
 clear q
 go_wp2_with fail
 refine (Hcp.out _).mono ?_
 rintro e v15 ⟨rfl, q⟩
 have Q := Q.trans (q.mono Q.size)
 clear q
 go_wp2_with fail
 refine (Hha.out _).mono ?_
 rintro e v16 ⟨rfl, q⟩
 have Q := Q.trans (q.mono Q.size)
 clear q
 go_wp2_with fail
 refine (Hlo.out _).mono ?_
 rintro e v17 ⟨rfl, q⟩
 have Q := Q.trans (q.mono Q.size)
 clear q
 go_wp2_with fail
 refine (Hini.out _).mono ?_
 rintro e v18 ⟨rfl, q⟩
 have Q := Q.trans (q.mono Q.size)
 clear q
 go_wp2_with fail
 refine (Hto.out _).mono ?_
 rintro e v19 ⟨rfl, q⟩
 have Q := Q.trans (q.mono Q.size)
 clear q
 go_wp2_with fail
 refine (Hsta.out _).mono ?_
 rintro e v20 ⟨rfl, q⟩
 have Q := Q.trans (q.mono Q.size)
 clear q
 go_wp2_with fail
 refine (Hba.out _).mono ?_
 rintro e v21 ⟨rfl, q⟩
 have Q := Q.trans (q.mono Q.size)
 clear q
 have HQ := hid Q
 clear Q
 go_wp2_with (refine wpList_build_k1G rfl (.tmp 110) rfl kyNone kyNone_cells ?_)
 refine (declared_any _ _ _ [kyNone] [] (keys_one _ _ kyNone_ok) (KeysAt.nil _) (by decide)).mono ?_
 rintro e w9 ⟨rfl, q9⟩
 rw [show ((declN [kyNone] [] : Nat) : Int) = 2400 by decide +kernel]
 have Q9 := hid (q9)
 clear q9
 go_wp2
 go_ret
 refine ⟨rfl, (HQ.out.trans ?_)⟩
 exact (((Below.refl v21.heap.size v21).alloc (Nat.le_refl _) _).trans (Q9.out.mono (by simp))).mono HQ.out.size
theorem awakeG_ret : Ret Tryd.prog 9 #[] (.bool true) := by
 have w0 : wv 0 = .agg #[.int .u64 0, .int .u64 0, .int .u64 0, .int .u64 0] := wv_natG 0 (by decide)
 have w1 : wv 1 = .agg #[.int .u64 1, .int .u64 0, .int .u64 0, .int .u64 0] := wv_natG 1 (by decide)
 have wm : wv (2 ^ 256 - 1) = .agg #[.int .u64 18446744073709551615, .int .u64 18446744073709551615, .int .u64 18446744073709551615, .int .u64 18446744073709551615] := by rfl
 have w256 : wv 256 = .agg #[.int .u64 256, .int .u64 0, .int .u64 0, .int .u64 0] := wv_natG 256 (by decide)
 have h0 : W256 0 := by unfold W256; decide
 have h1 : W256 1 := by unfold W256; decide
 have h2 : W256 256 := by unfold W256; decide
 have hm : W256 (2 ^ 256 - 1) := by unfold W256; decide
 have om := refOf_ret (-1) (by unfold I64; decide)
 rw [show ofN (-1) = 2 ^ 256 - 1 by decide +kernel, wm] at om
 have s1 := store_ret 0 0 1 h0 h0 h1 true
 have s2 := store_ret 0 1 0 h0 h1 h0 true
 rw [w0, w1] at s1 s2
 have c1 := call_ret 6500 (2 ^ 256 - 1) hm true false false
 rw [wm] at c1
 have c2 := call_ret 99 1 h1 true false false
 rw [w1] at c2
 have ex := exp_retG 256 h2
 rw [w256] at ex
 exact awakeG_walk (ofRG 0 (by decide)) (ofRG 1 (by decide)) om (ofRG 256 (by decide)) (Ret.of_eq s1 rfl (by rfl)) (Ret.of_eq s2 rfl (by rfl)) (Ret.of_eq c1 rfl (by unfold callV; rw [if_neg (by decide +kernel)]; simp only [show ownN (6500 - callingN true false false) (2 ^ 256 - 1) = 6300 by decide +kernel]; rfl)) (Ret.of_eq c2 rfl (by unfold callV; rw [if_pos (by decide +kernel)]))
  (Ret.of_eq ex rfl (by rw [show nbG 256 = 2 by decide +kernel]; rfl)) (Ret.of_eq (copy_retG 33) rfl (by rw [show 3 * wordsN 33 = 6 by decide +kernel])) (Ret.of_eq (hash_retG 1) rfl (by rw [show 6 * wordsN 1 = 6 by decide +kernel])) (Ret.of_eq (log_retG 5) rfl (by rw [show 8 * manyN 5 = 40 by decide +kernel])) (Ret.of_eq (init_ret 32 true) rfl (by rw [show initN 32 true = 8 by decide +kernel])) (Ret.of_eq (touch_ret true false) rfl rfl)
  (Ret.of_eq (start_ret ⟨#[0, 97]⟩ (by decide) true) rfl (by rw [show startN ⟨#[0, 97]⟩ true = 53022 by decide +kernel])) (Ret.of_eq (back_ret 100 50 (by unfold I64; decide)) rfl (by rw [show backN 100 50 = 20 by decide +kernel]))
end
section
open Go Go.ChangeShapes Go.WideShapes Go.ChangeAt Go.RowKit Go.Deep
theorem cellsI64 : Tryd.prog.cellsOf 3 = 1 := by kernel_rfl
theorem laidOutAll : laidOutB Tryd.prog = true := by kernel_rfl
theorem trodAll_below {H : Type} {enc : TypeId × Value → H} {W W' : World} (hb : Below W.heap.size W W') : ∀ {ts : List TypeId} {vs : List Value} {ds : List (DataW H)} {ps : List MemPlace},
  (∀ t ∈ ts, Tryd.prog.readableRec t = true ∧ t < Tryd.prog.types.size) → DataW.TrodAll enc Tryd.prog W 0 (fun _ => true) true ts vs ds ps → (∀ x ∈ ps, x.block < W.heap.size) →
  DataW.TrodAll enc Tryd.prog W' 0 (fun b => decide (b < W.heap.size)) true ts vs ds ps
 | [], [], [], _, _, h, _ => h
 | _ :: _, _ :: _, _ :: _, _, ht, ⟨p, q, h1, h2, e⟩, hs =>
  ⟨p, q, Below.trod laidOutAll (ht _ (List.mem_cons.2 (Or.inl rfl))).1 (ht _ (List.mem_cons.2 (Or.inl rfl))).2 h1 hb (fun x hx => hs x (by rw [e]; exact List.mem_append_left _ hx)),
   trodAll_below hb (fun t h => ht t (List.mem_cons.2 (Or.inr h))) h2 (fun x hx => hs x (by rw [e]; exact List.mem_append_right _ hx)), e⟩
theorem post_read {H : Type} {enc : TypeId × Value → H} {f : Func} {s : ChangeSpec} {W W' : World} {args : Array Value} {ds : List (DataW H)} {before : List MemPlace}
  (hW : DataW.Whole enc Tryd.prog f.params.toList s.vars false W args.toList ds [] before) (hvars : s.vars = []) (hft : f.resultTypes = #[4])
  (hfn : s.fn H ds = { results := [.lit (.bool true)], args := ds }) (hA : DataW.TrodAll enc Tryd.prog W 0 (fun _ => true) true f.params.toList args.toList ds before)
  (hts : (f.params.toList.all fun t => Tryd.prog.readableRec t && decide (t < Tryd.prog.types.size)) = true)
  (hb : Below W.heap.size W W') : s.post enc Tryd.prog f false true false false W args (.bool true) W' := by
 have e : (s.fn H (ds ++ [])) = { results := [.lit (.bool true)], args := ds } := by rw [List.append_nil]; exact hfn
 refine ⟨ds, [], before, [], before, [], hW, ?_, ?_, ?_, World.keptBut_mono (fun p hp => absurd hp (by simp)) (hb.frame (fun _ => False)), fun h => by cases h⟩
 ·rw [e, hft]
  exact trodAll_mk1 (shut_bool Tryd.underlying4 _)
 ·rw [e]
  exact trodAll_below hb (fun t ht => by
   have := List.all_eq_true.1 hts t ht
   simpa using this) hA (fun x hx => by simpa using hW.lt x hx)
 ·rw [e, hvars]
  rfl
def NumsAt (W : World) (v : Value) (zs : List Int) : Prop :=
 ∃ a cap, v = .slice a zs.length cap ∧ zs.length ≤ cap ∧ cap ≤ 9223372036854775807 ∧ ∀ (i : Nat) (p : Int), zs[i]? = some p → I64 p ∧ ∃ b : Addr, a = some b ∧ W.cell? (b.add i) = some (.int .i64 p)
theorem NumsAt.keep {W X : World} {v : Value} {zs : List Int} (h : NumsAt W v zs) (hk : ∀ (a : Addr) (u : Value), W.cell? a = some u → X.cell? a = some u) : NumsAt X v zs := by
 obtain ⟨a, cap, h1, h2, h3, h4⟩ := h
 refine ⟨a, cap, h1, h2, h3, fun i p hp => ?_⟩
 obtain ⟨g1, b, e, c0⟩ := h4 i p hp
 exact ⟨g1, b, e, hk _ _ c0⟩
theorem NumsAt.later {W X : World} {v : Value} {zs : List Int} (h : NumsAt W v zs) (hb : Below W.heap.size W X) : NumsAt X v zs := h.keep (cell_below hb)
theorem NumsAt.shape {W : World} {v : Value} {zs : List Int} (h : NumsAt W v zs) : ∃ a cap, v = .slice a zs.length cap ∧ zs.length ≤ cap ∧ cap ≤ 9223372036854775807 := by
 obtain ⟨a, cap, h1, h2, h3, _⟩ := h
 exact ⟨a, cap, h1, h2, h3⟩
theorem NumsAt.at {W : World} {a : Option Addr} {n cap : Nat} {zs : List Int} (h : NumsAt W (.slice a n cap) zs) {i : Nat} {p : Int} (hp : zs[i]? = some p) : I64 p ∧ ∃ b : Addr, a = some b ∧ W.cell? (b.add i) = some (.int .i64 p) := by
 obtain ⟨a', cap', h1, h2, h3, h4⟩ := h
 injection h1 with e1 e2 e3
 subst e1
 exact h4 i p hp
theorem open_nums {H : Type} {enc : TypeId × Value → H} {W : World} {base b : Nat} {sp : Nat → Bool} {held : Bool} {v : Value} {d : DataW H} {ps : List MemPlace}
  (hval : Value.okWide Tryd.prog W .any base 33 v) (hd : DataW.Trod enc Tryd.prog W b sp held 33 v d ps) : ∃ zs, NumsAt W v zs := by
 obtain ⟨a0, len, cap, rfl⟩ := okWide_slice Tryd.underlying33 hval
 obtain ⟨fuel, hf⟩ := hd
 rcases open_slice Tryd.underlying33 hf with ⟨hcs, _⟩ | ⟨a, len', cap', m, n, D, Pl, hcs, _, hl, hm, hmm, _, hi⟩
 ·simp [Value.cells] at hcs
  obtain ⟨rfl, rfl, rfl⟩ := hcs
  exact ⟨[], none, 0, rfl, by simp, by simp, fun i p hp => by simp at hp⟩
 ·simp [Value.cells] at hcs
  obtain ⟨rfl, rfl, rfl⟩ := hcs
  have hlm : len ≤ m := by rw [hmm]; split <;> omega
  have key : ∀ i, i < len → ∃ p : Int, I64 p ∧ W.cell? (a.add i) = some (.int .i64 p) := by
   intro i hil
   obtain ⟨cs', hc, ht⟩ := hi i (by omega)
   rw [cellsI64] at hc
   obtain ⟨_, hcl, hat⟩ := World.cells?_some hc
   match cs', hcl with
   | [c0], _ =>
    obtain ⟨x0, e0, _, w0⟩ := DataW.trod_int Tryd.underlying3 ht
    simp at e0
    subst e0
    have b0 := bounds_i64 w0
    refine ⟨x0, by unfold I64; omega, ?_⟩
    have := hat 0 (by simp)
    simpa [Addr.add] using this
  have hch : ∃ f : Nat → Int, ∀ i, i < len → I64 (f i) ∧ W.cell? (a.add i) = some (.int .i64 (f i)) := by
   refine ⟨fun i => if h : i < len then Classical.choose (key i h) else 0, fun i h => ?_⟩
   simp only [dif_pos h]
   exact Classical.choose_spec (key i h)
  obtain ⟨f, hf'⟩ := hch
  have hmax : maxLen ≤ 9223372036854775807 := by decide
  refine ⟨(List.range len).map f, some a, cap, by simp, by simpa using hl, by omega, fun i p hp => ?_⟩
  obtain ⟨hlt, he⟩ := List.getElem?_eq_some_iff.1 hp
  simp at hlt he
  subst he
  obtain ⟨g1, g3⟩ := hf' i hlt
  exact ⟨g1, a, rfl, g3⟩
end
end Go.Proofs.YtlihnlkcgiopoaaDoor
