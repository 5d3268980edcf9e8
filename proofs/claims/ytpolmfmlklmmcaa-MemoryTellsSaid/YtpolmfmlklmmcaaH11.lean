/- Part. -/
import Derived.Test.YtpolmfmlklmmcaaH09
import Derived.Test.YtpolmfmlklmmcaaH10
import Derived.Test.YtpolmfmlklmmcaaRows
import Derived.ProofKit
import Derived.LaidMore
import Derived.OpenShut
import Derived.Stop.Joined
import Derived.ChangeSame
import Derived.Below
import Derived.Laws.IdiomArrays
import Derived.Test.YtpolmfmlklmmcaaH04
set_option maxRecDepth 100000
set_option maxHeartbeats 16000000
namespace Go.Proofs.Ytpolmfmlklmmcaa
section
open Go Go.RowKit
theorem both_all (a : Nat) (ha : W256 a) (put : ByteArray) : Both (lim a) put (fun k => lim (ofN k)) (fun m k => if mayB m && limB k 32768 then fullS m (32 * k.toNat) else m) (fun m k => if mayB m && limB k 32768 then 0 else 1)
  (fun m k => if thereB m k 32 then lim (wordAt m k.toNat) else lim 0) (fun m k => if thereB m k 32 then 0 else 1) (fun m k => copyR m k (bytesOf a)) (fun m k => copyE m k (bytesOf a)) (fun m k => copyR m k (lastOf a)) (fun m k => copyE m k (lastOf a)) (fun m k => copyR m k put) (fun m k => copyE m k put)
  (fun m k n => if thereB m k n then m.extract k.toNat (k + n).toNat else ⟨#[]⟩) (fun m k n => if thereB m k n then 0 else 1) (fun m k n => if limB n 1048576 then pieceS m (ofN k) n.toNat else ⟨#[]⟩) (fun _ _ n => if limB n 1048576 then 0 else 1) (fun m n => if limB n 1048576 then pieceS m a n.toNat else ⟨#[]⟩) (fun _ n => if limB n 1048576 then 0 else 1) where
 of k hk := refOf_ret k hk
 grow m hm k := by
  have e : growV m k = .tuple #[.string (if mayB m && limB k 32768 then fullS m (32 * k.toNat) else m), .int .i64 (if mayB m && limB k 32768 then 0 else 1)] := by unfold growV; split <;> rfl
  exact ⟨Ret.of_eq (grow_ret m (by omega) k) rfl e, Ret.of_eq (refGrow12_ret m (by omega) k) rfl e⟩
 load m hm k hk := by
  have e : loadV m k = .tuple #[.agg #[.int .u64 ((if thereB m k 32 then lim (wordAt m k.toNat) else lim 0) 0), .int .u64 ((if thereB m k 32 then lim (wordAt m k.toNat) else lim 0) 1), .int .u64 ((if thereB m k 32 then lim (wordAt m k.toNat) else lim 0) 2), .int .u64 ((if thereB m k 32 then lim (wordAt m k.toNat) else lim 0) 3)], .int .i64 (if thereB m k 32 then 0 else 1)] := by
   unfold loadV wv; split <;> rfl
  exact ⟨Ret.of_eq (load_ret m (by omega) k) rfl e, Ret.of_eq (refLoad12_ret m (by omega) k hk) rfl e⟩
 store m hm k hk := ⟨Ret.of_eq (store_ret m (by omega) k a ha) rfl (copyV_eq _ _ _), Ret.of_eq (refStore12_ret m (by omega) k hk a) rfl (copyV_eq _ _ _)⟩
 byte m hm k hk := ⟨Ret.of_eq (byte_ret m (by omega) k a ha) rfl (copyV_eq _ _ _), Ret.of_eq (refByte12_ret m (by omega) k hk a) rfl (copyV_eq _ _ _)⟩
 copy m hm k hk := ⟨Ret.of_eq (copy_ret m put (by omega) k) rfl (copyV_eq _ _ _), Ret.of_eq (refCopy12_ret m put (by omega) k hk) rfl (copyV_eq _ _ _)⟩
 slice m hm k hk n := by
  have e : sliceV m k n = .tuple #[.string (if thereB m k n then m.extract k.toNat (k + n).toNat else ⟨#[]⟩), .int .i64 (if thereB m k n then 0 else 1)] := by unfold sliceV; split <;> rfl
  exact ⟨Ret.of_eq (slice_ret m (by omega) k n) rfl e, Ret.of_eq (refSlice12_ret m (by omega) k n hk) rfl e⟩
 piece m hm k hk n := by
  have e : pieceV m (ofN k) n = .tuple #[.string (if limB n 1048576 then pieceS m (ofN k) n.toNat else ⟨#[]⟩), .int .i64 (if limB n 1048576 then 0 else 1)] := by unfold pieceV; split <;> rfl
  exact ⟨Ret.of_eq (piece_ret m (by omega) (ofN k) (ofN_lt k hk) n) rfl e, Ret.of_eq (refPiece12_ret m (by omega) (ofN k) (ofN_lt k hk) n) rfl e⟩
 pieceA m hm n := by
  have e : pieceV m a n = .tuple #[.string (if limB n 1048576 then pieceS m a n.toNat else ⟨#[]⟩), .int .i64 (if limB n 1048576 then 0 else 1)] := by unfold pieceV; split <;> rfl
  exact ⟨Ret.of_eq (piece_ret m (by omega) a ha n) rfl e, Ret.of_eq (refPiece12_ret m (by omega) a ha n) rfl e⟩
theorem needV_two (a n : Nat) : ∃ (i : Int) (b : Bool), needV a n = .tuple #[.int .i64 i, .bool b] := by
 unfold needV; split
 ·exact ⟨_, _, rfl⟩
 ·split <;> exact ⟨_, _, rfl⟩
theorem tells_any12 (s : ByteArray) (words ap n : Int) (a b : Nat) (put : ByteArray) (hw : I64 words) (hap : I64 ap) (hn : I64 n) (ha : W256 a) (hb : W256 b) :
  Ret Try.prog 3 #[.string s, .int .i64 words, .int .i64 ap, .int .i64 n, wv a, wv b, .string put] (.bool true) := by
 have big : ∀ m c : Int, 0 < m → m ≤ 4611686018427387903 → I64 (pickN c m) := fun m c h0 h1 => by
  have := pickN_range c m h0
  unfold I64; omega
 obtain ⟨i1, b1, e1⟩ := needV_two a b
 obtain ⟨i2, b2, e2⟩ := needV_two (ofN ap) (ofN n)
 obtain ⟨i3, b3, e3⟩ := needV_two (ofN (pickN ap 1048576)) (ofN (pickN n 1048576))
 have N1 := Ret.of_eq (need_ret a b ha hb) rfl e1
 have R1 := Ret.of_eq (refNeed12_ret a b ha hb) rfl e1
 have N2 := Ret.of_eq (need_ret _ _ (ofN_lt ap hap) (ofN_lt n hn)) rfl e2
 have R2 := Ret.of_eq (refNeed12_ret _ _ (ofN_lt ap hap) (ofN_lt n hn)) rfl e2
 have N3 := Ret.of_eq (need_ret _ _ (ofN_lt _ (big 1048576 ap (by decide) (by decide))) (ofN_lt _ (big 1048576 n (by decide) (by decide)))) rfl e3
 have R3 := Ret.of_eq (refNeed12_ret _ _ (ofN_lt _ (big 1048576 ap (by decide) (by decide))) (ofN_lt _ (big 1048576 n (by decide) (by decide)))) rfl e3
 have mem : ∀ x : ByteArray, x.size ≤ 800 → (memS x words).size ≤ 2000 := fun x _ => by
  have h1 := memS_size x words
  have h2 := pickN_range words 17 (by decide)
  omega
 have p := fun c (hc : I64 c) m h0 h1 => pick_ret c hc m h0 h1
 by_cases h : s.size ≤ 800
 ·exact tells_all (lim a) (lim b) put _ _ _ _ _ _ _ _ _ _ _ _ _ _ _ _ _ s s (memS s words) words ap n _ _ _ _ _ _ _ _ _ _ _ i1 i2 i3 b1 b2 b3 ⟨by omega, rfl⟩ (both_all a ha put) rfl rfl rfl (by omega) (mem s h) hap hn
   (big 1048576 ap (by decide) (by decide)) (big 1048576 n (by decide) (by decide)) (big 600 ap (by decide) (by decide)) awake_ret (p n hn 40000 (by decide) (by decide)) (p ap hap 1048576 (by decide) (by decide)) (p n hn 1048576 (by decide) (by decide)) (p n hn 40 (by decide) (by decide)) (p ap hap 600 (by decide) (by decide)) (p n hn 100 (by decide) (by decide))
   (cost_ret _) (refCost12_ret _) (cost_ret _) (refCost12_ret _) (mem_ret s (by omega) words hw) N1 R1 N2 R2 N3 R3
 ·have hx : (s.extract 0 800).size ≤ 800 := by rw [ByteArray.size_extract]; omega
  exact tells_cut (lim a) (lim b) put _ _ _ _ _ _ _ _ _ _ _ _ _ _ _ _ _ s (s.extract 0 800) (memS (s.extract 0 800) words) words ap n _ _ _ _ _ _ _ _ _ _ _ i1 i2 i3 b1 b2 b3 ⟨by omega, rfl⟩ (both_all a ha put) rfl rfl rfl (by omega) (mem _ hx) hap hn
   (big 1048576 ap (by decide) (by decide)) (big 1048576 n (by decide) (by decide)) (big 600 ap (by decide) (by decide)) awake_ret (p n hn 40000 (by decide) (by decide)) (p ap hap 1048576 (by decide) (by decide)) (p n hn 1048576 (by decide) (by decide)) (p n hn 40 (by decide) (by decide)) (p ap hap 600 (by decide) (by decide)) (p n hn 100 (by decide) (by decide))
   (cost_ret _) (refCost12_ret _) (cost_ret _) (refCost12_ret _) (mem_ret _ (by omega) words hw) N1 R1 N2 R2 N3 R3
end
section
open Go Go.ChangeShapes Go.WideShapes Go.ChangeAt Go.RowKit
theorem ownNone : ownKnob Try.prog.godebug = none := by kernel_rfl
theorem cellsU64 : Try.prog.cellsOf 22 = 1 := by kernel_rfl
theorem cellsWord : Try.prog.cellsOf 24 = 4 := by kernel_rfl
theorem list4 {α : Type} (l : List α) (h : (⟨l⟩ : Array α).size = 4) : ∃ a b c d, l = [a, b, c, d] := by
 match l, h with
 | [a, b, c, d], _ => exact ⟨a, b, c, d, rfl⟩
theorem u64_of_wf {x : Int} (h : (Lit.int .u64 x).wf = true) : U64 x := by
 have := bounds_u64 h
 unfold U64; omega
theorem word_of (x0 x1 x2 x3 : Int) (h0 : U64 x0) (h1 : U64 x1) (h2 : U64 x2) (h3 : U64 x3) : ∃ n, W256 n ∧ wv n = .agg #[.int .u64 x0, .int .u64 x1, .int .u64 x2, .int .u64 x3] := by
 obtain ⟨z, z0, z1, z2, z3⟩ : ∃ z : Nat → Int, z 0 = x0 ∧ z 1 = x1 ∧ z 2 = x2 ∧ z 3 = x3 := ⟨fun k => if k = 0 then x0 else if k = 1 then x1 else if k = 2 then x2 else x3, rfl, rfl, rfl, rfl⟩
 subst z0 z1 z2 z3
 obtain ⟨g0, g1⟩ := num_lt z h0 h1 h2 h3
 have en : num z = ((num z).toNat : Int) := (Int.toNat_of_nonneg g0).symm
 have e := lim_num z (num z).toNat h0 h1 h2 h3 en
 refine ⟨_, ?_, wv_of e⟩
 unfold W256
 rw [en] at g1
 exact Int.ofNat_lt.1 g1
theorem open_word {H : Type} {enc : TypeId × Value → H} {W : World} {base b : Nat} {sp : Nat → Bool} {held : Bool} {v : Value} {d : DataW H} {ps : List MemPlace}
  (hval : Value.okWide Try.prog W .any base 24 v) (hd : DataW.Trod enc Try.prog W b sp held 24 v d ps) :
  ∃ n, W256 n ∧ v = wv n ∧ ps = [] ∧ ∀ (W' : World) (b' : Nat) (sp' : Nat → Bool) (held' : Bool), DataW.Trod enc Try.prog W' b' sp' held' 24 (wv n) d [] := by
 obtain ⟨cs, rfl, hsz, _⟩ : ∃ cs, v = .agg cs ∧ cs.size = Try.prog.cellsOf 24 ∧ Row.okWide Try.prog W .any base 24 cs := by
  simpa [Value.okWide, Try.underlying24] using hval
 rw [cellsWord] at hsz
 obtain ⟨l⟩ := cs
 obtain ⟨c0, c1, c2, c3, rfl⟩ := list4 l hsz
 obtain ⟨fuel, hf⟩ := hd
 obtain ⟨y0, y1, y2, y3, m, hx, hy0, hy1, hy2, hy3⟩ := trod_array4 Try.underlying24 cellsU64 hf
 obtain ⟨x0, e0, rfl, w0⟩ := DataW.trod_int Try.underlying22 hy0
 obtain ⟨x1, e1, rfl, w1⟩ := DataW.trod_int Try.underlying22 hy1
 obtain ⟨x2, e2, rfl, w2⟩ := DataW.trod_int Try.underlying22 hy2
 obtain ⟨x3, e3, rfl, w3⟩ := DataW.trod_int Try.underlying22 hy3
 simp at e0 e1 e2 e3
 subst e0 e1 e2 e3
 simp only [Prod.mk.injEq] at hx
 obtain ⟨rfl, rfl⟩ := hx
 obtain ⟨n, hn, hv⟩ := word_of x0 x1 x2 x3 (u64_of_wf w0) (u64_of_wf w1) (u64_of_wf w2) (u64_of_wf w3)
 refine ⟨n, hn, hv.symm, rfl, fun W' b' sp' held' => ?_⟩
 rw [hv]
 exact ⟨2, by simp [DataW.trod, Value.cells, Try.underlying24, Try.underlying22, cellsWord, cellsU64, w0, w1, w2, w3, show List.range 4 = [0, 1, 2, 3] from rfl]⟩
theorem post_true {H : Type} {enc : TypeId × Value → H} {f : Func} {s : ChangeSpec} {W W' : World} {args : Array Value} {ds : List (DataW H)}
  (hW : DataW.Whole enc Try.prog f.params.toList s.vars false W args.toList ds [] []) (hvars : s.vars = []) (hft : f.resultTypes = #[4])
  (hfn : s.fn H ds = { results := [.lit (.bool true)], args := ds })
  (hargs : ∀ (W' : World) (b : Nat) (sp : Nat → Bool) (held : Bool), DataW.TrodAll enc Try.prog W' b sp held f.params.toList args.toList ds [])
  (hb : Below W.heap.size W W') : s.post enc Try.prog f false true false false W args (.bool true) W' := by
 have e : (s.fn H (ds ++ [])) = { results := [.lit (.bool true)], args := ds } := by rw [List.append_nil]; exact hfn
 refine ⟨ds, [], [], [], [], [], hW, ?_, ?_, ?_, World.keptBut_mono (fun p hp => absurd hp (by simp)) (hb.frame (fun _ => False)), fun h => by cases h⟩
 ·rw [e, hft]
  exact trodAll_mk1 (shut_bool Try.underlying4 _)
 ·rw [e]
  exact hargs _ _ _ _
 ·rw [e, hvars]
  rfl
theorem i64_of_wf {x : Int} (h : (Lit.int .i64 x).wf = true) : I64 x := by
 have := bounds_i64 h
 unfold I64; omega
end
end Go.Proofs.Ytpolmfmlklmmcaa
