/- Part. -/
import Derived.Shelf.Strings.Builder2
import Derived.Shelf.Strings.BuilderK
import Derived.Shelf.Strings.Prefix
import Derived.Shelf.Strings.Search2
import Derived.Shelf.Small.Strs
import Derived.Shelf.Small.Wraps
import Derived.Test.YthcmfadofogfaaaDoorProg
import Derived.Maps.AppendAt
import Derived.Test.YthcmfadofogfaaaDoorG04
import Derived.Test.YthcmfadofogfaaaDoorG05
import Derived.Lib.ConvBytes
import Derived.Test.YthcmfadofogfaaaDoorG06
import Derived.Laws.Strings3
import Derived.Test.YthcmfadofogfaaaDoorG02
set_option maxRecDepth 100000
set_option maxHeartbeats 16000000
namespace Go.Proofs.YthcmfadofogfaaaDoor
section
open Go Go.Shelf Go.RowKit
def layByte_ren : Go.Shelf.Ren := ⟨fun | 167 => 61 | 240 => 60 | 276 => 70 | n => n, fun | 0 => 0 | 4 => 4 | 5 => 5 | 9 => 9 | 20 => 20 | 37 => 55 | 70 => 62 | 72 => 64 | 75 => 66 | 80 => 71 | 164 => 102 | n => n, fun | 1 => 0 | n => n⟩
theorem layByte : Go.Proofs.Lays.n167 Tryd.prog layByte_ren := {
 mixed := by kernel_rfl,
 f167 := Tryd.func61.trans (congrArg some (by kernel_rfl)),
 f240 := Tryd.func60.trans (congrArg some (by kernel_rfl)),
 f276 := Tryd.func70.trans (congrArg some (by kernel_rfl)),
 t0 := Tryd.underlying0,
 a0 := Tryd.isAgg0,
 z0 := Tryd.sizeOf0,
 v0 := Tryd.zeroValue0,
 t4 := Tryd.underlying4,
 a4 := Tryd.isAgg4,
 z4 := Tryd.sizeOf4,
 v4 := Tryd.zeroValue4,
 t5 := Tryd.underlying5,
 a5 := Tryd.isAgg5,
 z5 := Tryd.sizeOf5,
 v5 := Tryd.zeroValue5,
 t9 := Tryd.underlying9,
 a9 := Tryd.isAgg9,
 z9 := Tryd.sizeOf9,
 v9 := Tryd.zeroValue9,
 t20 := Tryd.underlying20,
 a20 := Tryd.isAgg20,
 z20 := Tryd.sizeOf20,
 v20 := Tryd.zeroValue20,
 t37 := Tryd.underlying55,
 a37 := Tryd.isAgg55,
 z37 := Tryd.sizeOf55,
 v37 := Tryd.zeroValue55,
 t70 := Tryd.underlying62,
 a70 := Tryd.isAgg62,
 z70 := Tryd.sizeOf62,
 v70 := Tryd.zeroValue62,
 t72 := Tryd.underlying64,
 a72 := Tryd.isAgg64,
 z72 := Tryd.sizeOf64,
 v72 := Tryd.zeroValue64,
 t75 := Tryd.underlying66,
 a75 := Tryd.isAgg66,
 z75 := Tryd.sizeOf66,
 v75 := Tryd.zeroValue66,
 t164 := Tryd.underlying102,
 a164 := Tryd.isAgg102,
 z164 := Tryd.sizeOf102,
 v164 := Tryd.zeroValue102 }
theorem layByteX : Builder.Extra Tryd.prog layByte_ren := {
 sizeBuilder := by kernel_rfl
 liesBuilder := by kernel_rfl
 t5 := Tryd.underlying5
 a5 := Tryd.isAgg5
 z5 := Tryd.sizeOf5
 v5 := Tryd.zeroValue5
 infoByte := by kernel_rfl
 cellsByte := by kernel_rfl
 sizeByte := by kernel_rfl
 neB5 := by decide }
def layWrite_ren : Go.Shelf.Ren := ⟨fun | 166 => 32 | 240 => 60 | 276 => 70 | n => n, fun | 0 => 0 | 3 => 3 | 4 => 4 | 5 => 5 | 9 => 9 | 20 => 20 | 37 => 55 | 70 => 62 | 72 => 64 | 75 => 66 | 80 => 71 | 164 => 102 | n => n, fun | 1 => 0 | n => n⟩
theorem layWrite : Go.Proofs.Lays.n166 Tryd.prog layWrite_ren := {
 mixed := by kernel_rfl,
 f166 := Tryd.func32.trans (congrArg some (by kernel_rfl)),
 f240 := Tryd.func60.trans (congrArg some (by kernel_rfl)),
 f276 := Tryd.func70.trans (congrArg some (by kernel_rfl)),
 t0 := Tryd.underlying0,
 a0 := Tryd.isAgg0,
 z0 := Tryd.sizeOf0,
 v0 := Tryd.zeroValue0,
 t3 := Tryd.underlying3,
 a3 := Tryd.isAgg3,
 z3 := Tryd.sizeOf3,
 v3 := Tryd.zeroValue3,
 t4 := Tryd.underlying4,
 a4 := Tryd.isAgg4,
 z4 := Tryd.sizeOf4,
 v4 := Tryd.zeroValue4,
 t9 := Tryd.underlying9,
 a9 := Tryd.isAgg9,
 z9 := Tryd.sizeOf9,
 v9 := Tryd.zeroValue9,
 t20 := Tryd.underlying20,
 a20 := Tryd.isAgg20,
 z20 := Tryd.sizeOf20,
 v20 := Tryd.zeroValue20,
 t37 := Tryd.underlying55,
 a37 := Tryd.isAgg55,
 z37 := Tryd.sizeOf55,
 v37 := Tryd.zeroValue55,
 t70 := Tryd.underlying62,
 a70 := Tryd.isAgg62,
 z70 := Tryd.sizeOf62,
 v70 := Tryd.zeroValue62,
 t72 := Tryd.underlying64,
 a72 := Tryd.isAgg64,
 z72 := Tryd.sizeOf64,
 v72 := Tryd.zeroValue64,
 t75 := Tryd.underlying66,
 a75 := Tryd.isAgg66,
 z75 := Tryd.sizeOf66,
 v75 := Tryd.zeroValue66,
 t164 := Tryd.underlying102,
 a164 := Tryd.isAgg102,
 z164 := Tryd.sizeOf102,
 v164 := Tryd.zeroValue102 }
theorem layWriteX : Builder.Extra Tryd.prog layWrite_ren := {
 sizeBuilder := by kernel_rfl
 liesBuilder := by kernel_rfl
 t5 := Tryd.underlying5
 a5 := Tryd.isAgg5
 z5 := Tryd.sizeOf5
 v5 := Tryd.zeroValue5
 infoByte := by kernel_rfl
 cellsByte := by kernel_rfl
 sizeByte := by kernel_rfl
 neB5 := by decide }
def layString_ren : Go.Shelf.Ren := ⟨fun | 169 => 37 | n => n, fun | 0 => 0 | 3 => 3 | 5 => 5 | 9 => 9 | 37 => 55 | 70 => 62 | 72 => 64 | 127 => 91 | n => n, fun | 1 => 0 | n => n⟩
theorem layString : Go.Proofs.Lays.n169 Tryd.prog layString_ren := {
 mixed := by kernel_rfl,
 f169 := Tryd.func37.trans (congrArg some (by kernel_rfl)),
 t0 := Tryd.underlying0,
 a0 := Tryd.isAgg0,
 z0 := Tryd.sizeOf0,
 v0 := Tryd.zeroValue0,
 t3 := Tryd.underlying3,
 a3 := Tryd.isAgg3,
 z3 := Tryd.sizeOf3,
 v3 := Tryd.zeroValue3,
 t9 := Tryd.underlying9,
 a9 := Tryd.isAgg9,
 z9 := Tryd.sizeOf9,
 v9 := Tryd.zeroValue9,
 t37 := Tryd.underlying55,
 a37 := Tryd.isAgg55,
 z37 := Tryd.sizeOf55,
 v37 := Tryd.zeroValue55,
 t70 := Tryd.underlying62,
 a70 := Tryd.isAgg62,
 z70 := Tryd.sizeOf62,
 v70 := Tryd.zeroValue62,
 t72 := Tryd.underlying64,
 a72 := Tryd.isAgg64,
 z72 := Tryd.sizeOf64,
 v72 := Tryd.zeroValue64,
 t127 := Tryd.underlying91,
 a127 := Tryd.isAgg91,
 z127 := Tryd.sizeOf91,
 v127 := Tryd.zeroValue91 }
theorem layStringX : Builder.Extra Tryd.prog layString_ren := {
 sizeBuilder := by kernel_rfl
 liesBuilder := by kernel_rfl
 t5 := Tryd.underlying5
 a5 := Tryd.isAgg5
 z5 := Tryd.sizeOf5
 v5 := Tryd.zeroValue5
 infoByte := by kernel_rfl
 cellsByte := by kernel_rfl
 sizeByte := by kernel_rfl
 neB5 := by decide }
def layIndexByte_ren : Go.Shelf.Ren := ⟨fun | 137 => 64 | 217 => 74 | 266 => 82 | n => n, fun | 3 => 3 | 5 => 5 | 9 => 9 | n => n, fun | 1 => 0 | n => n⟩
theorem layIndexByte : Go.Proofs.Lays.n137 Tryd.prog layIndexByte_ren := {
 mixed := by kernel_rfl,
 f137 := Tryd.func64.trans (congrArg some (by kernel_rfl)),
 f217 := Tryd.func74.trans (congrArg some (by kernel_rfl)),
 f266 := Tryd.func82.trans (congrArg some (by kernel_rfl)),
 t3 := Tryd.underlying3,
 a3 := Tryd.isAgg3,
 z3 := Tryd.sizeOf3,
 v3 := Tryd.zeroValue3,
 t5 := Tryd.underlying5,
 a5 := Tryd.isAgg5,
 z5 := Tryd.sizeOf5,
 v5 := Tryd.zeroValue5,
 t9 := Tryd.underlying9,
 a9 := Tryd.isAgg9,
 z9 := Tryd.sizeOf9,
 v9 := Tryd.zeroValue9 }
def layCutPrefix_ren : Go.Shelf.Ren := ⟨fun | 103 => 76 | 206 => 92 | 210 => 84 | n => n, fun | 3 => 3 | 4 => 4 | 9 => 9 | 24 => 82 | n => n, fun | 1 => 0 | n => n⟩
theorem layCutPrefix : Go.Proofs.Lays.n103 Tryd.prog layCutPrefix_ren := {
 mixed := by kernel_rfl,
 f103 := Tryd.func76.trans (congrArg some (by kernel_rfl)),
 f206 := Tryd.func92.trans (congrArg some (by kernel_rfl)),
 f210 := Tryd.func84.trans (congrArg some (by kernel_rfl)),
 t3 := Tryd.underlying3,
 a3 := Tryd.isAgg3,
 z3 := Tryd.sizeOf3,
 v3 := Tryd.zeroValue3,
 t4 := Tryd.underlying4,
 a4 := Tryd.isAgg4,
 z4 := Tryd.sizeOf4,
 v4 := Tryd.zeroValue4,
 t9 := Tryd.underlying9,
 a9 := Tryd.isAgg9,
 z9 := Tryd.sizeOf9,
 v9 := Tryd.zeroValue9,
 t24 := Tryd.underlying82,
 a24 := Tryd.isAgg82,
 z24 := Tryd.sizeOf82,
 v24 := Tryd.zeroValue82 }
def layTrimSuffix_ren : Go.Shelf.Ren := ⟨fun | 102 => 43 | 207 => 77 | 209 => 68 | n => n, fun | 3 => 3 | 4 => 4 | 9 => 9 | n => n, fun | 1 => 0 | n => n⟩
theorem layTrimSuffix : Go.Proofs.Lays.n102 Tryd.prog layTrimSuffix_ren := {
 mixed := by kernel_rfl,
 f102 := Tryd.func43.trans (congrArg some (by kernel_rfl)),
 f207 := Tryd.func77.trans (congrArg some (by kernel_rfl)),
 f209 := Tryd.func68.trans (congrArg some (by kernel_rfl)),
 t3 := Tryd.underlying3,
 a3 := Tryd.isAgg3,
 z3 := Tryd.sizeOf3,
 v3 := Tryd.zeroValue3,
 t4 := Tryd.underlying4,
 a4 := Tryd.isAgg4,
 z4 := Tryd.sizeOf4,
 v4 := Tryd.zeroValue4,
 t9 := Tryd.underlying9,
 a9 := Tryd.isAgg9,
 z9 := Tryd.sizeOf9,
 v9 := Tryd.zeroValue9 }
def layIndex_ren : Go.Shelf.Ren := ⟨fun | 217 => 74 | 219 => 83 | 224 => 90 | 225 => 89 | 266 => 82 | 267 => 91 | 314 => 97 | n => n, fun | 3 => 3 | 4 => 4 | 5 => 5 | 9 => 9 | 46 => 85 | 51 => 130 | 146 => 131 | n => n, fun | 1 => 0 | n => n⟩
theorem layIndex : Go.Proofs.Lays.n219 Tryd.prog layIndex_ren := {
 mixed := by kernel_rfl,
 f217 := Tryd.func74.trans (congrArg some (by kernel_rfl)),
 f219 := Tryd.func83.trans (congrArg some (by kernel_rfl)),
 f224 := Tryd.func90.trans (congrArg some (by kernel_rfl)),
 f225 := Tryd.func89.trans (congrArg some (by kernel_rfl)),
 f266 := Tryd.func82.trans (congrArg some (by kernel_rfl)),
 f267 := Tryd.func91.trans (congrArg some (by kernel_rfl)),
 f314 := Tryd.func97.trans (congrArg some (by kernel_rfl)),
 t3 := Tryd.underlying3,
 a3 := Tryd.isAgg3,
 z3 := Tryd.sizeOf3,
 v3 := Tryd.zeroValue3,
 t4 := Tryd.underlying4,
 a4 := Tryd.isAgg4,
 z4 := Tryd.sizeOf4,
 v4 := Tryd.zeroValue4,
 t5 := Tryd.underlying5,
 a5 := Tryd.isAgg5,
 z5 := Tryd.sizeOf5,
 v5 := Tryd.zeroValue5,
 t9 := Tryd.underlying9,
 a9 := Tryd.isAgg9,
 z9 := Tryd.sizeOf9,
 v9 := Tryd.zeroValue9,
 t46 := Tryd.underlying85,
 a46 := Tryd.isAgg85,
 z46 := Tryd.sizeOf85,
 v46 := Tryd.zeroValue85,
 t51 := Tryd.underlying130,
 a51 := Tryd.isAgg130,
 z51 := Tryd.sizeOf130,
 v51 := Tryd.zeroValue130,
 t146 := Tryd.underlying131,
 a146 := Tryd.isAgg131,
 z146 := Tryd.sizeOf131,
 v146 := Tryd.zeroValue131,
 g1 := by kernel_rfl }
theorem writeString_k (B b : Nat) (bs : List Value) (s : ByteArray) (w : World) (h : Lib.IsBuilderF 64 5 B b bs w) (hlen : bs.length + s.size ≤ 140737488355328) (hBw : B ≤ w.heap.size) :
  Calls Tryd.prog 32 #[.pointer (some ⟨b, 0, none⟩), .string s] w fun e w' => e = .returned (.tuple #[.int .i64 s.size, .nilIface]) ∧ (Lib.BuilderAtF 64 5 B b (.pointer (some ⟨b, 0, none⟩)) (bs ++ Lib.strCells s) w' ∧ Below B w w' ∧ Lib.OthersKept 5 (some b) w w') := Any.Builder_WriteString_k layWrite layWriteX B b bs s w h hlen hBw
theorem string_any_k (B b : Nat) (l : List UInt8) (w : World) (h : Lib.IsBuilderF 64 5 B b (Lib.byteCells l) w) (hBw : B ≤ w.heap.size) :
  Calls Tryd.prog 37 #[.pointer (some ⟨b, 0, none⟩)] w fun e w' => e = .returned (.string ⟨l.toArray⟩) ∧ (Lib.IsBuilderF 64 5 B b (Lib.byteCells l) w' ∧ Below B w w' ∧ Lib.OthersKept 5 (some b) w w') := Any.Builder_String_any_k layString layStringX B b l w h hBw
theorem indexByte_any (s : ByteArray) (c : Int) (w : World) : Calls Tryd.prog 64 #[.string s, .int .u8 c] w fun e w' => e = .returned (.int .i64 (Lib.indexByte s.data.toList c.toNat.toUInt8)) ∧ w' = w := Any.strings_IndexByte layIndexByte s c w
theorem cutPrefix_any (s p : ByteArray) (w : World) : Calls Tryd.prog 76 #[.string s, .string p] w fun e w' => e = .returned (.tuple #[.string ⟨(Lib.trimPrefix s.data.toList p.data.toList).toArray⟩, .bool (Lib.hasPrefix s.data.toList p.data.toList)]) ∧ w' = w := Any.strings_CutPrefix layCutPrefix s p w
theorem trimSuffix_any (s p : ByteArray) (w : World) (hs : s.size ≤ 9223372036854775807) : Calls Tryd.prog 43 #[.string s, .string p] w fun e w' => e = .returned (.string ⟨(Lib.trimSuffix s.data.toList p.data.toList).toArray⟩) ∧ w' = w := Any.strings_TrimSuffix layTrimSuffix s p w hs
theorem indexOne_any (s : ByteArray) (c : UInt8) (w : World) : Calls Tryd.prog 83 #[.string s, .string ⟨#[c]⟩] w fun e w' => e = .returned (.int .i64 (Lib.indexByte s.data.toList c)) ∧ w' = w := Any.stringslite_Index_one layIndex s c w
end
section
open Go Go.RowKit Go.Shelf
attribute [local go_sem] Oper.semAt_some Grows wide_fn
def BdX (w : World) (b : Nat) (X : Option Nat) (l : List UInt8) : Prop :=
 ∃ v, Has w b 64 #[.pointer (some ⟨b, 0, none⟩), v] ∧ w.ownsRow b tB 1 v l.length (Lib.byteCells l) ∧ v.ownBlock ≠ some b ∧ (X = none ∨ v.ownBlock ≠ X)
theorem BdX.lt {w : World} {b : Nat} {X : Option Nat} {l : List UInt8} (h : BdX w b X l) : b < w.heap.size := by obtain ⟨v, h1, _⟩ := h; exact h1.lt
theorem BdX.builder {w : World} {b : Nat} {X : Option Nat} {l : List UInt8} (h : BdX w b X l) : Lib.IsBuilderF 64 5 b b (Lib.byteCells l) w := by
 obtain ⟨v, h1, h2, h3, _⟩ := h
 refine .inr ⟨Nat.le_refl _, v, h1, ?_, h3⟩
 rw [Lib.byteCells_length]
 exact World.ownsRowF_of h2
theorem BdX.made {w w' : World} {b : Nat} {X : Option Nat} {l : List UInt8} (h : BdX w b X l) (hb : Below w.heap.size w w') : BdX w' b (some w.heap.size) l := by
 obtain ⟨v, h1, h2, h3, h4⟩ := h
 refine ⟨v, h1.later hb, ?_, h3, .inr fun e => ?_⟩
 ·refine ⟨h2.1, h2.2.imp id ?_⟩
  rintro ⟨g, cap, cur, e1, e2, e3, e4⟩
  exact ⟨g, cap, cur, e1, e2, (hb.block g (Array.getElem?_eq_some_iff.1 e3).1).trans e3, e4⟩
 ·have := (h2.lt _ e).2
  omega
theorem infoB8 : (Tryd.prog.info? tB).map (fun i => (i.zero, i.size, i.bytes)) = some (some (.int .u8 0), 1, 1) := by kernel_rfl
theorem copyCheck_used (b : Nat) (w : World) (h0 : w.cell? ⟨b, 0, none⟩ = some (.pointer (some ⟨b, 0, none⟩))) :
  Calls Tryd.prog 60 #[.pointer (some ⟨b, 0, none⟩)] w fun e w' => e = .returned (.tuple #[]) ∧ w' = w := Any.Builder_copyCheck_used { layByte with } layByteX.toX72 b w h0
theorem copyCheck_fresh (b : Nat) (w : World) (h : Has w b 64 #[.pointer none, .slice none 0 0]) :
  Calls Tryd.prog 60 #[.pointer (some ⟨b, 0, none⟩)] w fun e w' => e = .returned (.tuple #[]) ∧ w' = w.setCell ⟨b, 0, none⟩ (.pointer (some ⟨b, 0, none⟩)) := Any.Builder_copyCheck_fresh { layByte with } layByteX.toX72 b w (h.cell 0 _ rfl) (by unfold Has at h; simp [World.shape?, h, layByte_ren]) (h.frozen 0)
theorem wpList_append_runB {P : Program} {w w' : World} {ops : Array Oper} {rest : List Oper} {o : Oper} {a : Act} {Q : Exit → Act → World → Prop}
  (hg : o.guard = none) (s x : Operand) (t u : TypeId) (hop : o.op = Op.call { callee := Callee.builtin Builtin.append, args := #[s, x], argTypes := #[t, u] })
  (v x0 v' : Value) (hs : a.eval s = v) (hx : a.eval x = x0) (hr : (Builtin.append_ #[t, u] o.type #[v, x0]).run P w = .ok v' w')
  (hK : wpList P ops Q rest (a.put o.dst v') w') : wpList P ops Q (o :: rest) a w := by
 refine wpList_plain hg fun K hK' => ?_
 unfold Oper.wp execOp
 simp only [hop, resolve, invoke, builtin, Sem.run_bind, Sem.run_pure, Result.andThen_ok, List.map_toArray, List.map_cons, List.map_nil, hs, hx, hr]
 exact hK' _ _ hK
theorem ownsRow_set {w : World} {base n b k : Nat} {v u : Value} {xs : List Value} (h : w.ownsRow base tB 1 v n xs) (hne : v.ownBlock ≠ some b) : (w.setCell ⟨b, k, none⟩ u).ownsRow base tB 1 v n xs := by
 refine ⟨h.1, h.2.imp id ?_⟩
 rintro ⟨g, cap, cur, e1, e2, e3, e4⟩
 refine ⟨g, cap, cur, e1, e2, (Below.heap_setCell w ⟨b, k, none⟩ u g (fun e => hne ?_)).trans e3, e4⟩
 rw [e1]
 simp only [Value.ownBlock]
 exact congrArg some e
theorem ownsRow_apart {w : World} {base n b : Nat} {v : Value} {xs : List Value} {cs : Array Value} (h : w.ownsRow base tB 1 v n xs) (hb : Has w b 64 cs) : v.ownBlock ≠ some b := by
 intro e
 rcases h.2 with ⟨e1, _⟩ | ⟨g, cap, cur, e1, e2, e3, e4⟩
 ·rw [e1] at e; simp [Value.ownBlock] at e
 ·rw [e1] at e
  simp only [Value.ownBlock, Option.some.injEq] at e
  subst e
  unfold Has at hb
  rw [hb] at e3
  simp [tB] at e3
theorem byteCells_snoc (l : List UInt8) (n : Nat) (hn : n < 256) : Lib.byteCells (l ++ [UInt8.ofNat n]) = Lib.byteCells l ++ [.int .u8 (n : Int)] := by
 rw [Lib.byteCells_append]
 have : (UInt8.ofNat n).toNat = n := by simp; omega
 simp [Lib.byteCells, this]
theorem writeString_new (W : World) (b : Nat) (s : ByteArray) (hb : Has W b 64 #[.pointer none, .slice none 0 0]) (hs : s.size ≤ 1000000) :
  Calls Tryd.prog 32 #[.pointer (some ⟨b, 0, none⟩), .string s] W fun e w' => e = .returned (.tuple #[.int .i64 s.size, .nilIface]) ∧ BdX w' b none s.data.toList ∧ Below b W w' := by
 obtain ⟨i0, hi, hz0, hz1, hz2⟩ := info_parts infoB8
 have hb2 := hb.set 0 (.pointer (some ⟨b, 0, none⟩))
 have HL := hid hb.lt
 have HC := hid (copyCheck_fresh b W hb)
 have HB0 := hid ((Below.refl b W).setCell (p := ⟨b, 0, none⟩) (Nat.le_refl _) (.pointer (some ⟨b, 0, none⟩)))
 obtain ⟨W1, hW1⟩ : ∃ W1, W.setCell ⟨b, 0, none⟩ (.pointer (some ⟨b, 0, none⟩)) = W1 := ⟨_, rfl⟩
 rw [hW1] at hb2 HC HB0
 obtain ⟨v', w2, hr, hown, hgrow, hnil⟩ := Lib.run_append_own_string (P := Tryd.prog) W1 b 55 9 55 tB i0 Tryd.underlying55 Tryd.underlying9 hi hz0 hz1 hz2 (.slice none 0 0) 0 [] (World.ownsRow_nil _ _ _ _) s (by unfold maxLen; omega) (by omega) (by have := hb2.lt; omega)
 obtain ⟨ad, na, nc, rfl⟩ : ∃ a m c, v' = .slice a m c := by
  rcases hown.2 with ⟨h, _⟩ | ⟨g, cap, cur, h, _⟩
  ·exact ⟨_, _, _, h⟩
  ·exact ⟨_, _, _, h⟩
 have d1 := hb2.cell 1 _ rfl
 have hb3 : Has w2 b 64 #[.pointer (some ⟨b, 0, none⟩), .slice none 0 0] := (hgrow.block b hb2.lt (by simp [Value.ownBlock])).trans hb2
 have e1 := hb3.cell 1 _ rfl
 have f1 := hb3.frozen 1
 have HX := hid (And.intro hown (And.intro hgrow hb3))
 have HS := hid hs
 have HW := hid hb2.lt
 have hsl : (s.size : Int) ≤ 1000000 := by omega
 clear hb hb2 hi hz0 hz1 hz2 hown hgrow hnil hb3 hs hW1
 go_enter Tryd.func32, Tryd.ntmps32
 go_wp2_with (first | (go_at_call 60; refine HC.out.mono ?_; rintro _ w1 ⟨rfl, hw⟩; rw [hw]; clear hw w1) | (at_builtin; refine wpList_append_runB rfl (.tmp 12) (.tmp 13) _ _ rfl _ _ _ rfl rfl hr ?_))
 go_ret2
 obtain ⟨hown, hgrow, hb3⟩ := HX.out
 have hne := ownsRow_apart hown hb3
 refine ⟨rfl, ⟨_, hb3.set 1 _, ?_, hne, .inl rfl⟩, (HB0.out.grown hgrow (Nat.le_of_lt HW.out) (fun k e => by cases e)).setCell (Nat.le_refl _) _⟩
 have e1 : s.data.toList.length = 0 + s.size := by rw [Nat.zero_add, Array.length_toList]; rfl
 rw [e1]
 exact ownsRow_set hown hne
theorem writeByte_x (W : World) (b : Nat) (X : Option Nat) (hX : ∀ x, X = some x → x < W.heap.size) (l : List UInt8) (n : Nat) (hn : n < 256) (hb : BdX W b X l) (hl : l.length ≤ 1000000) :
  Calls Tryd.prog 61 #[.pointer (some ⟨b, 0, none⟩), .int .u8 (n : Int)] W fun e w' => e = .returned .nilIface ∧ BdX w' b X (l ++ [UInt8.ofNat n]) ∧ Below b W w' ∧ ∀ x, X = some x → x ≠ b → w'.heap[x]? = W.heap[x]? := by
 obtain ⟨i0, hi, hz0, hz1, hz2⟩ := info_parts infoB8
 obtain ⟨v, h1, h2, h3, h4⟩ := hb
 obtain ⟨W1, hW1⟩ : ∃ W1, W.alloc (.cells #[.int .u8 (n : Int)] tB) = W1 := ⟨_, rfl⟩
 obtain ⟨v', w2, hr, hown, hgrow, hnil, hat⟩ := run_append_own_at (P := Tryd.prog) (W.alloc (.cells #[.int .u8 (n : Int)] tB)) b 55 55 tB i0 (.int .u8 0) 1 1 Tryd.underlying55 hi hz0 hz1 hz2 rfl (by decide) v l.length _ (h2.alloc _) ⟨W.heap.size, 0, none⟩ 1 1 [.int .u8 (n : Int)] rfl (cell_one_new _ _ _) (by simp [Value.oneCell']) (by unfold maxLen; omega) (by omega) (by have := h1.lt; simp; omega)
 obtain ⟨ad, na, nc, rfl⟩ : ∃ a m c, v' = .slice a m c := by
  rcases hown.2 with ⟨h, _⟩ | ⟨g, cap, cur, h, _⟩
  ·exact ⟨_, _, _, h⟩
  ·exact ⟨_, _, _, h⟩
 have c0 := h1.cell 0 _ rfl
 have c1 := h1.cell 1 _ rfl
 have hb1 := h1.alloc (.cells #[.int .u8 (n : Int)] tB)
 have hq1 := (Below.refl b W).alloc (Nat.le_of_lt h1.lt) (.cells #[.int .u8 (n : Int)] tB)
 have hs1 : (W.alloc (.cells #[.int .u8 (n : Int)] tB)).heap.size = W.heap.size + 1 := by simp
 have hold : ∀ x, x < W.heap.size → (W.alloc (.cells #[.int .u8 (n : Int)] tB)).heap[x]? = W.heap[x]? := fun x hx => Below.heap_alloc W _ x hx
 rw [hW1] at hr hgrow hat hb1 hq1 hs1 hold
 have hb3 : Has w2 b 64 #[.pointer (some ⟨b, 0, none⟩), v] := (hgrow.block b hb1.lt (fun e => h3 e.symm)).trans hb1
 have e1 := hb3.cell 1 _ rfl
 have f1 := hb3.frozen 1
 have HX := hid (And.intro hown (And.intro hgrow (And.intro hb3 (And.intro hat (And.intro hq1 (And.intro hs1 hold))))))
 have H1 := hid (And.intro h1 (And.intro h2 (And.intro h3 h4)))
 have HN := hid (And.intro hX (And.intro hn hl))
 unfold tB at hW1
 clear h1 h2 h3 h4 hi hz0 hz1 hz2 hown hgrow hnil hat hb1 hb3 hX hl hq1 hs1 hold
 go_enter Tryd.func61, Tryd.ntmps61
 go_wp2_with (first | (go_at_call 60; refine (copyCheck_used b W c0).mono ?_; rintro _ w1 ⟨rfl, hw⟩; rw [hw]; clear hw w1) | (at_builtin; refine wpList_append_runB rfl (.tmp 11) (.tmp 13) _ _ rfl _ _ _ rfl rfl hr ?_))
 go_ret
 obtain ⟨hown, hgrow, hb3, hat, hq1, hs1, hold⟩ := HX.out
 obtain ⟨h1, h2, h3, h4⟩ := H1.out
 obtain ⟨hX, hn, hl⟩ := HN.out
 have hne := ownsRow_apart hown hb3
 have hbw := h1.lt
 refine ⟨rfl, ⟨_, hb3.set 1 _, ?_, hne, ?_⟩, (hq1.grown hgrow (by omega) (fun k e => (h2.lt k e).1)).setCell (Nat.le_refl _) _, fun x hx hxb => ?_⟩
 ·rw [byteCells_snoc l n hn, List.length_append]
  exact ownsRow_set hown hne
 ·cases X with
  | none => exact .inl rfl
  | some x =>
   have hx := hX x rfl
   refine .inr ?_
   rcases hat with e | e
   ·rw [e]
    exact h4.resolve_left (by simp)
   ·rw [e, hs1]
    simp
    omega
 ·subst hx
  have hx := hX x rfl
  rw [Below.heap_setCell _ _ _ x hxb, hgrow.block x (by omega) (fun e => h4.resolve_left (by simp) e.symm), hold x hx]
end
section
open Go Go.RowKit Go.Maps Go.Shelf
attribute [local go_sem] Oper.semAt_some Grows wide_fn
theorem copy_any (W : World) (B n m : Nat) (v : Value) (f g : Nat → Option Inf) (hd : MapB W B n f) (hs : MapV W v m g) (hne : v ≠ .map (some B)) (hn : n + m < 1000) :
  Calls Tryd.prog 59 #[.map (some B), v] W fun e w' => e = .returned (.tuple #[]) ∧ MapB w' B (n + m) (overB g f) ∧ W.grownBy w' (some B) := by
 rcases hs with ⟨rfl, h⟩ | ⟨S, rfl, h⟩
 ·refine (copy_none W B n f hd).mono ?_
  rintro e w' ⟨h1, h2, h3⟩
  exact ⟨h1, (h2.mono (by omega)).congr (fun op ho => by unfold overB; rw [h op ho]; rfl), h3⟩
 ·exact copy_some W B n S m f g hd h (fun e => hne (by rw [e])) hn
def belowF (k : Nat) : Nat → Option Inf := fun op => if op / 16 < k then opI op else none
theorem row_other : ∀ k, k < 16 → ∀ op, op < 256 → op / 16 ≠ k → findI (opRow k) op = none := by decide +kernel
theorem belowF_succ (k : Nat) (hk : k < 16) (op : Nat) (ho : op < 256) : overB (findI (opRow k)) (belowF k) op = belowF (k + 1) op := by
 unfold overB belowF
 by_cases h : op / 16 = k
 ·rw [if_neg (by omega), if_pos (by omega)]
  unfold opI
  rw [h]
  cases findI (opRow k) op <;> rfl
 ·rw [row_other k hk op ho h, Option.none_or]
  by_cases h2 : op / 16 < k
  ·rw [if_pos h2, if_pos (by omega)]
  ·rw [if_neg h2, if_neg (by omega)]
theorem all_any (W : World) : Calls Tryd.prog 31 #[] W fun e w' => ∃ B, e = .returned (.map (some B)) ∧ MapB w' B 700 opI ∧ W.heap.size ≤ B ∧ Below W.heap.size W w' := by
 have hmm := fun (x : Int) => run_makeMap_hint (P := Tryd.prog) tMB tB tI .i64 x Tryd.underlying52
 unfold tMB at hmm
 obtain ⟨W1, hW1⟩ : ∃ W1, W.alloc (.map #[] 0) = W1 := ⟨_, rfl⟩
 have hm1 := hid (hW1 ▸ MapB.made W : MapB W1 W.heap.size 0 fun _ => none)
 have hq1 := hid (hW1 ▸ (Below.refl _ W).alloc (Nat.le_refl _) _ : Below W.heap.size W W1)
 go_enter Tryd.func31, Tryd.ntmps31
 go_wp2_with fail
 go_loopw [4] (fun i wr => ∃ k : Nat, k ≤ 16 ∧ i = .int .i64 (k : Int) ∧ MapB wr W.heap.size (40 * k) (belowF k) ∧ Below W.heap.size W wr) (fun i _ => 16 - (intOf i).toNat)
 case atStart => exact ⟨0, by omega, rfl, hm1.out.congr (fun op _ => by unfold belowF; rw [if_neg (by omega)]), hq1.out⟩
 case round =>
  obtain ⟨k, hk, rfl, hm, hq⟩ := hrel
  have HM := hid hm
  have HQ := hid hq
  clear hm hq hm1 hq1 hW1
  by_cases hkN : k < 16
  ·have c1 : (k : Int) < 16 := by omega
   have c2 : (0 : Int) ≤ (k : Int) := by omega
   have HC := hid (row_any (16 * k) (by omega))
   rw [show 16 * k / 16 = k by omega] at HC
   have HK := hid hkN
   simp only [Int.natCast_mul, Int.cast_ofNat_Int, Int.mul_comm (16 : Int)] at HC
   clear hkN hk
   go_wp2_with fail
   refine (HC.out _).mono ?_
   rintro _ w1 ⟨v, rfl, hv, hnew, q1⟩
   have hm1 := HM.out.below q1 HM.out.lt
   have HC2 := hid (copy_any w1 W.heap.size (40 * k) 40 v _ _ hm1 hv (by
    rintro rfl
    have h1 := hnew _ rfl
    have h2 := HM.out.lt
    omega) (by have := HK.out; omega))
   have Q1 := hid (HQ.out.trans (q1.mono HQ.out.size))
   have HZ := hid q1.size
   clear hm1 hv q1 hnew
   go_wp2_with fail
   refine HC2.out.mono ?_
   rintro _ w2 ⟨rfl, hm2, hg2⟩
   have M2 := hid (hm2.congr (fun op ho => belowF_succ k HK.out op ho))
   have Q2 := hid (Q1.out.grown hg2 (Q1.out.size) (fun j e => by cases e; exact Nat.le_refl _))
   clear hm2 hg2
   go_wp2_with fail
   case roundEnd =>
    refine ⟨⟨k + 1, by have := HK.out; omega, by simp, M2.out.mono (by omega), Q2.out⟩, ?_⟩
    have := HK.out
    simp only [intOf]
    omega
  ·obtain rfl : k = 16 := by omega
   clear hkN hk
   have c1 : ¬ (((16 : Nat) : Int) < 16) := by omega
   go_wp2_with fail
   go_ret
   exact ⟨_, rfl, (HM.out.mono (by omega)).congr (fun op ho => by unfold belowF; rw [if_pos (by omega)]), Nat.le_refl _, HQ.out⟩
theorem letters_get (d : Nat) (h : d < (ByteArray.mk #[48, 49, 50, 51, 52, 53, 54, 55, 56, 57, 97, 98, 99, 100, 101, 102]).size) : (ByteArray.mk #[48, 49, 50, 51, 52, 53, 54, 55, 56, 57, 97, 98, 99, 100, 101, 102])[d] = digU d := by
 have h16 : d < 16 := h
 have key : ∀ d : Fin 16, (ByteArray.mk #[48, 49, 50, 51, 52, 53, 54, 55, 56, 57, 97, 98, 99, 100, 101, 102])[d.val]'(d.isLt) = digU d.val := by decide +kernel
 exact key ⟨d, h16⟩
theorem ofNat_toNat8 (u : UInt8) : UInt8.ofNat u.toNat = u := UInt8.ofNat_toNat
theorem hexO_len (bs : List UInt8) : (hexO bs).length = 2 + 2 * bs.length := by
 have : ∀ l : List UInt8, (l.flatMap twoL).length = 2 * l.length := fun l => by
  induction l with
  | nil => rfl
  | cons a r ih => simp only [List.flatMap_cons, List.length_append, List.length_cons, ih]; simp [twoL]; omega
 unfold hexO
 simp only [List.length_cons, this]
 omega
theorem hex_take (bs : List UInt8) (k : Nat) (hk : k < bs.length) : hexO (bs.take (k + 1)) = hexO (bs.take k) ++ [digU ((bs.getD k 0).toNat / 16)] ++ [digU ((bs.getD k 0).toNat % 16)] := by
 have e : bs.take (k + 1) = bs.take k ++ [bs[k]] := (List.take_append_getElem hk).symm
 unfold hexO
 rw [e, List.flatMap_append, List.getD_eq_getElem?_getD, List.getElem?_eq_getElem hk]
 simp only [List.flatMap_cons, List.flatMap_nil, twoL, List.append_nil, List.cons_append, List.append_assoc, Option.getD_some, List.nil_append]
theorem digitsO_any (W : World) (bs : List UInt8) (hl : bs.length ≤ 100000) : Calls Tryd.prog 35 #[.string ⟨bs.toArray⟩] W fun e w' => e = .returned (.string ⟨(hexO bs).toArray⟩) ∧ Below W.heap.size W w' := by
 obtain ⟨W1, hW1⟩ : ∃ W1, W.alloc (.cells #[.pointer none, .slice none 0 0] 64) = W1 := ⟨_, rfl⟩
 have q1 : Below W.heap.size W W1 := hW1 ▸ (Below.refl _ W).alloc (Nat.le_refl _) _
 have n1 : Has W1 W.heap.size 64 #[.pointer none, .slice none 0 0] := hW1 ▸ Has.new _ _ _
 have HC := hid (writeString_new W1 W.heap.size ⟨#[48, 120]⟩ n1 (by simp [ByteArray.size]))
 have Q1 := hid q1
 have HL := hid hl
 obtain ⟨s, hs⟩ : ∃ s : ByteArray, (⟨bs.toArray⟩ : ByteArray) = s := ⟨_, rfl⟩
 obtain ⟨N, hN⟩ : ∃ N, s.size = N := ⟨_, rfl⟩
 rw [hs]
 have HS := hid (show s.data.toList = bs by rw [← hs])
 have HN := hid (show bs.length = N by rw [← hN, ← hs]; simp [ByteArray.size])
 have HNN := hid hN
 clear q1 n1 hl hs hN
 go_enter Tryd.func35, Tryd.ntmps35
 go_wp2_with fail
 refine HC.out.mono ?_
 rintro _ w2 ⟨rfl, hb2, q2⟩
 have hcv := Lib.run_convert_string_bytes (P := Tryd.prog) w2 9 55 tB s Tryd.underlying9 Tryd.underlying55 Tryd.underlying5
 obtain ⟨w3, hw3⟩ : ∃ w3, Lib.bytesWorld w2 tB s = w3 := ⟨_, rfl⟩
 rw [hw3] at hcv
 obtain ⟨cap, hcap⟩ : ∃ cap, grownCap w2 s.size 0 tB = cap := ⟨_, rfl⟩
 rw [hcap] at hcv
 have q3 : Below w2.heap.size w2 w3 := hw3 ▸ ⟨rfl, rfl, rfl, by rw [Lib.bytesWorld_size]; omega, fun k hk => Lib.bytesWorld_at_old w2 tB s k hk⟩
 have hcell : ∀ j, j < s.size → w3.cell? ⟨w2.heap.size, j, none⟩ = some (.int .u8 ((s.data.toList.getD j 0).toNat : Int)) := fun j hj => hw3 ▸ Lib.bytesWorld_cell w2 tB s j hj
 rw [HNN.out] at hcv
 have HXL := hid (show W.heap.size < w2.heap.size from hb2.lt)
 have HX3 := hid (show w2.heap.size < w3.heap.size by rw [← hw3, Lib.bytesWorld_size]; omega)
 have HX := hid (And.intro hcell (And.intro q3 (And.intro (hb2.made q3) q2)))
 clear hcell q3 hb2 q2 hw3 hcap HC hW1
 go_wp2_with fail
 obtain ⟨X, hX⟩ : ∃ X, w2.heap.size = X := ⟨_, rfl⟩
 rw [hX] at HX HXL HX3 ⊢
 have hXw : W.heap.size < X := by
  have h1 := HX.out.2.2.1.lt
  have h2 := HX.out.2.2.2.size
  have h3 := HXL.out
  omega
 go_loopw [10] (fun i wr => ∃ k : Nat, k ≤ N ∧ i = .int .i64 (k : Int) ∧ BdX wr W.heap.size (some X) (hexO (bs.take k)) ∧ (∀ j, j < s.size → wr.cell? ⟨X, j, none⟩ = some (.int .u8 ((s.data.toList.getD j 0).toNat : Int))) ∧ Below W.heap.size W wr ∧ X < wr.heap.size) (fun i _ => N - (intOf i).toNat)
 case atStart => exact ⟨0, Nat.zero_le _, rfl, HX.out.2.2.1, HX.out.1, (Q1.out.trans (HX.out.2.2.2.mono (Nat.le_refl _))).trans (HX.out.2.1.mono (Nat.le_of_lt hXw)), HX3.out⟩
 case round =>
  obtain ⟨k, hk, rfl, hb, hc, hq, hxl⟩ := hrel
  by_cases hlt : k < N
  ·have c1 : (k : Int) < (N : Int) := by omega
   have c2 : (0 : Int) ≤ (k : Int) := by omega
   have c3 := hc k (by have := HNN.out; omega)
   obtain ⟨y, hy⟩ : ∃ y : UInt8, s.data.toList.getD k 0 = y := ⟨_, rfl⟩
   rw [hy] at c3
   have HY := hid hy
   have HB := hid (And.intro hb (And.intro hc (And.intro hq hxl)))
   obtain ⟨z, hz⟩ : ∃ z, y.toNat = z := ⟨_, rfl⟩
   rw [hz] at c3
   have HZ := hid hz
   have z0 : (0 : Int) ≤ (z : Int) := by omega
   have z1 : (z : Int) < 256 := by have := y.toNat_lt; omega
   clear hb hc hq hxl hy hz
   have HT := hid (hex_take bs k (by have := HN.out; omega))
   rw [← HS.out] at HT
   rw [HY.out, HZ.out] at HT
   have HLN := hid (show (hexO (bs.take k)).length ≤ 300000 by rw [hexO_len]; have := HL.out; simp; omega)
   rw [← HS.out] at HLN HB
   go_wp2_with fail
   rw [letters_get]
   refine (writeByte_x wr W.heap.size (some X) (fun x e => by cases e; exact HB.out.2.2.2) _ _ (UInt8.toNat_lt _) HB.out.1 (by have := HLN.out; omega)).mono ?_
   rintro _ w4 ⟨rfl, hb4, q4, hk4⟩
   rw [ofNat_toNat8] at hb4
   have hk4' := hk4 X rfl (by omega)
   have HB4 := hid hb4
   have HC4 := hid (show ∀ j, j < s.size → w4.cell? ⟨X, j, none⟩ = some (.int .u8 ((s.data.toList.getD j 0).toNat : Int)) from fun j hj => (World.cell?_of_block (w := wr) (a := ⟨X, j, none⟩) hk4').trans (HB.out.2.1 j hj))
   have Q4 := hid (HB.out.2.2.1.trans q4)
   have S4 := hid (show X < w4.heap.size from Nat.lt_of_lt_of_le HB.out.2.2.2 q4.size)
   clear hb4 q4 hk4 hk4'
   go_wp2_with fail
   rw [letters_get]
   refine (writeByte_x w4 W.heap.size (some X) (fun x e => by cases e; exact S4.out) _ _ (UInt8.toNat_lt _) HB4.out (by have := HLN.out; simp; omega)).mono ?_
   rintro _ w5 ⟨rfl, hb5, q5, hk5⟩
   rw [ofNat_toNat8] at hb5
   have hk5' := hk5 X rfl (by omega)
   have HB5 := hid hb5
   have HC5 := hid (show ∀ j, j < s.size → w5.cell? ⟨X, j, none⟩ = some (.int .u8 ((s.data.toList.getD j 0).toNat : Int)) from fun j hj => (World.cell?_of_block (w := w4) (a := ⟨X, j, none⟩) hk5').trans (HC4.out j hj))
   have Q5 := hid (Q4.out.trans q5)
   have S5 := hid (show X < w5.heap.size from Nat.lt_of_lt_of_le S4.out q5.size)
   clear hb5 q5 hk5 hk5'
   have c4 : (k : Int) + 1 ≤ 9223372036854775807 := by have := HN.out; have := HL.out; omega
   go_wp2_with fail
   case roundEnd =>
    refine ⟨⟨k + 1, by omega, by simp, by rw [← HS.out, HT.out]; exact HB5.out, HC5.out, Q5.out, S5.out⟩, ?_⟩
    simp only [intOf]
    omega
  ·obtain rfl : k = N := by omega
   have HB := hid hb.builder
   have HQ := hid hq
   have HE := hid (show hexO (bs.take k) = hexO bs by rw [List.take_of_length_le (by rw [HN.out]; exact Nat.le_refl _)])
   have HLE := hid hq.size
   clear hb hc hq hxl hk
   go_wp2_with fail
   refine (string_any_k W.heap.size W.heap.size _ wr HB.out HLE.out).mono ?_
   rintro _ w6 ⟨rfl, _, q6, _⟩
   have Q6 := hid (HQ.out.trans q6)
   clear q6
   rw [HE.out]
   go_wp2_with fail
   go_ret
   exact ⟨rfl, Q6.out⟩
theorem nmLen : ∀ d, d < 16 → ∀ op, op < 256 → ∀ x, findI (opRow d) op = some x → x.1.length ≤ 14 := by decide +kernel
theorem title_len (op : Nat) (ho : op < 256) : (titleL op).length ≤ 14 := by
 unfold titleL
 cases h : opI op with
 | none => simp [hexO, twoL]
 | some x => exact nmLen (op / 16) (by omega) op ho x h
theorem conv_one (A : World) (op : Nat) (ho : op < 256) : (convert 55 9 (.slice (some ⟨A.heap.size, 0, none⟩) 1 1)).run Tryd.prog (A.alloc (.cells #[.int .u8 (op : Int)] tB)) = .ok (.string ⟨#[UInt8.ofNat op]⟩) (A.alloc (.cells #[.int .u8 (op : Int)] tB)) := by
 have e : (UInt8.ofNat op).toNat = op := by simp; omega
 have h := run_convert_bytes_back (P := Tryd.prog) (A.alloc (.cells #[.int .u8 (op : Int)] tB)) 55 9 tB ⟨A.heap.size, 0, none⟩ 1 [UInt8.ofNat op] Tryd.underlying55 Tryd.underlying5 Tryd.underlying9 (fun j hj => by
  obtain rfl : j = 0 := by simpa using hj
  have h1 := cell_one_new A (.int .u8 (op : Int)) tB 0 _ rfl
  rw [h1]
  simp [e])
 simpa using h
theorem title_any (W : World) (B n : Nat) (h : MapB W B n opI) (op : Nat) (ho : op < 256) :
  Calls Tryd.prog 33 #[.map (some B), .int .u8 (op : Int)] W fun e w' => e = .returned (.string ⟨(titleL op).toArray⟩) ∧ Below W.heap.size W w' := by
 obtain ⟨s, po, pu, ga, b, e⟩ := lookV_parts opI op
 have HL := hid (look_any W _ n opI (.inr ⟨B, rfl, h⟩) op ho)
 have HD := hid (fun w => digitsO_any w [UInt8.ofNat op] (by simp))
 have HE := hid (show (b = true → (⟨(titleL op).toArray⟩ : ByteArray) = s) ∧ (b = false → titleL op = hexO [UInt8.ofNat op]) by
  unfold lookV at e
  unfold titleL
  cases hx : opI op with
  | none =>
   rw [hx] at e
   simp at e
   exact ⟨fun h => by rw [h] at e; simp at e, fun _ => rfl⟩
  | some x =>
   rw [hx] at e
   simp [infV] at e
   exact ⟨fun _ => e.1.1, fun h => by rw [h] at e; simp at e⟩)
 rw [e] at HL
 have HO := hid ho
 clear h e ho
 go_enter Tryd.func33, Tryd.ntmps33
 go_wp2_with fail
 refine HL.out.mono ?_
 rintro _ w3 ⟨rfl, q3⟩
 obtain ⟨W4, hW4⟩ : ∃ W4, w3.alloc (.cells #[.string s, .int .i64 (po : Int), .int .i64 (pu : Int), .int .i64 (ga : Int)] tI) = W4 := ⟨_, rfl⟩
 have q4 : Below w3.heap.size w3 W4 := hW4 ▸ (Below.refl _ w3).alloc (Nat.le_refl _) _
 have m4 : Has W4 w3.heap.size tI #[.string s, .int .i64 (po : Int), .int .i64 (pu : Int), .int .i64 (ga : Int)] := hW4 ▸ Has.new _ _ _
 have b0 := m4.cell 0 _ rfl
 have Q4 := hid (q3.trans (q4.mono q3.size))
 unfold tI at hW4
 clear q3 q4 m4
 cases b
 ·have HE1 := hid (HE.out.2 rfl)
  have hcv := conv_one W4 op HO.out
  obtain ⟨W5, hW5⟩ : ∃ W5, W4.alloc (.cells #[.int .u8 (op : Int)] tB) = W5 := ⟨_, rfl⟩
  have Q5 := hid (Q4.out.trans ((hW5 ▸ (Below.refl _ W4).alloc (Nat.le_refl _) _ : Below W4.heap.size W4 W5).mono Q4.out.size))
  rw [hW5] at hcv
  unfold tB at hW5
  clear HE b0
  go_wp2_with fail
  refine (HD.out _).mono ?_
  rintro _ w6 ⟨rfl, q6⟩
  have Q6 := hid (Q5.out.trans (q6.mono Q5.out.size))
  rw [← HE1.out]
  clear q6
  go_wp2_with fail
  go_ret
  exact ⟨rfl, Q6.out⟩
 ·have HE1 := hid (HE.out.1 rfl)
  clear HE
  go_wp2_with fail
  go_ret
  exact ⟨congrArg (fun x => Ending.returned (.string x)) HE1.out.symm, Q4.out⟩
def firstF (k : Nat) (s : List UInt8) : Option Nat := (List.range k).find? (fun op => titleL op == s)
theorem firstF_succ (k : Nat) (hk : k < 256) : putS (firstF k) (titleL k) k = firstF (k + 1) := by
 funext s
 unfold putS firstF
 rw [List.range_succ, List.find?_append]
 by_cases h : s = titleL k
 ·subst h
  rw [if_pos rfl]
  have hn : (List.range k).find? (fun op => titleL op == titleL k) = none := by
   rw [List.find?_eq_none]
   intro op ho e
   have h1 := List.mem_range.1 ho
   have := title_inj (show op < 256 by omega) hk (by simpa using e)
   omega
  rw [hn]
  simp
 ·rw [if_neg h]
  have : ([k].find? fun op => titleL op == s) = none := by simp; exact fun e => h e.symm
  rw [this, Option.or_none]
theorem titles_any (W : World) : Calls Tryd.prog 40 #[] W fun e w' => ∃ S, e = .returned (.map (some S)) ∧ MapS w' S 256 opOf ∧ W.heap.size ≤ S ∧ Below W.heap.size W w' := by
 have hmm := fun (x : Int) => run_makeMap_hint (P := Tryd.prog) tMS tSt tB .i64 x Tryd.underlying73
 unfold tMS at hmm
 go_enter Tryd.func40, Tryd.ntmps40
 go_wp2_with fail
 refine (all_any _).mono ?_
 rintro _ w1 ⟨B, rfl, hm, hBw, q1⟩
 obtain ⟨W2, hW2⟩ : ∃ W2, w1.alloc (.map #[] 0) = W2 := ⟨_, rfl⟩
 have q2 : Below w1.heap.size w1 W2 := hW2 ▸ (Below.refl _ w1).alloc (Nat.le_refl _) _
 have hs2 : MapS W2 w1.heap.size 0 fun _ => none := hW2 ▸ MapS.made w1
 have hm2 := hm.below q2 hm.lt
 have HI := hid (And.intro hm2 (And.intro hs2 (q1.trans (q2.mono q1.size))))
 have HB := hid (And.intro hm.lt q1.size)
 clear hm q1 q2 hs2 hm2
 go_wp2_with fail
 obtain ⟨S, hS⟩ : ∃ S, w1.heap.size = S := ⟨_, rfl⟩
 rw [hS] at HI HB ⊢
 clear hmm hW2
 go_loopw [7] (fun i wr => ∃ k : Nat, k ≤ 256 ∧ i = .int .i64 (k : Int) ∧ MapB wr B 700 opI ∧ MapS wr S k (firstF k) ∧ Below W.heap.size W wr) (fun i _ => 256 - (intOf i).toNat)
 case atStart => exact ⟨0, by omega, rfl, HI.out.1, HI.out.2.1, HI.out.2.2⟩
 case round =>
  obtain ⟨k, hk, rfl, hm, hs, hq⟩ := hrel
  by_cases hlt : k < 256
  ·have c1 : (k : Int) < 256 := by omega
   have c2 : (0 : Int) ≤ (k : Int) := by omega
   have HT := hid (title_any wr B 700 hm k hlt)
   have HM := hid (And.intro hm (And.intro hs hq))
   have HK := hid hlt
   clear hm hs hq hk hlt
   go_wp2_with fail
   refine HT.out.mono ?_
   rintro _ w4 ⟨rfl, q4⟩
   have M4 := hid (HM.out.1.below q4 HM.out.1.lt)
   have S4 := hid (HM.out.2.1.below q4 HM.out.2.1.lt)
   have Q4 := hid (HM.out.2.2.trans (q4.mono HM.out.2.2.size))
   clear q4
   go_wp2_with (refine wpList_putS _ rfl _ _ _ rfl _ _ _ rfl S4.out (by have := HK.out; omega) (titleL k) k rfl (Nat.le_trans (title_len k HK.out) (by decide)) rfl ?_; intro w5 h5 g5)
   case roundEnd =>
    rw [firstF_succ k HK.out] at h5
    have hne : some B ≠ some S := by have := HB.out.1; simp; omega
    refine ⟨⟨k + 1, by have := HK.out; omega, by simp, M4.out.kept g5 hne, h5, Q4.out.grown g5 Q4.out.size (fun j e => by cases e; exact HB.out.2)⟩, ?_⟩
    have := HK.out
    simp only [intOf]
    omega
  ·obtain rfl : k = 256 := by omega
   have HM := hid (And.intro hs hq)
   clear hm hs hq hk hlt
   have c1 : ¬ (((256 : Nat) : Int) < 256) := by omega
   go_wp2_with fail
   go_ret
   exact ⟨_, rfl, HM.out.1, HB.out.2, HM.out.2⟩
theorem pushed_any (W : World) (op : Nat) (ho : op < 256) : Calls Tryd.prog 34 #[.int .u8 (op : Int)] W fun e w' => e = .returned (.int .i64 (pushN op : Int)) ∧ w' = W := by
 have c0 : (0 : Int) ≤ (op : Int) := by omega
 have c1 : (op : Int) < 256 := by omega
 by_cases h1 : op < 96
 ·have h1I : (op : Int) < 96 := by omega
  have e : pushN op = 0 := by unfold pushN; rw [if_neg (by omega)]
  rw [e]
  clear h1 e
  go_enter Tryd.func34, Tryd.ntmps34
  go_wp2_with fail
  go_ret
  exact ⟨rfl, rfl⟩
 ·by_cases h2 : 127 < op
  ·have h1I : ¬ (op : Int) < 96 := by omega
   have h2I : (127 : Int) < (op : Int) := by omega
   have e : pushN op = 0 := by unfold pushN; rw [if_neg (by omega)]
   rw [e]
   clear h1 h2 e
   go_enter Tryd.func34, Tryd.ntmps34
   go_wp2_with fail
   go_ret
   exact ⟨rfl, rfl⟩
  ·have h1I : ¬ (op : Int) < 96 := by omega
   have h2I : ¬ (127 : Int) < (op : Int) := by omega
   have e : (pushN op : Int) = (op : Int) - 96 + 1 := by unfold pushN; rw [if_pos (by omega)]; omega
   rw [e]
   clear h1 h2 e
   go_enter Tryd.func34, Tryd.ntmps34
   go_wp2_with fail
   go_ret
   exact ⟨rfl, rfl⟩
theorem extract_eq (s : ByteArray) (a b : Nat) : s.extract a b = ⟨((s.data.toList.drop a).take (b - a)).toArray⟩ := by
 apply ByteArray.ext
 apply Array.ext'
 simp [ByteArray.data_extract]
theorem behind_eq (s : ByteArray) (p n : Nat) : (s.extract (p + 1) s.size).extract 0 (min (n : Int) ((s.size - (p + 1) : Nat) : Int)).toNat = ⟨(behindL s.data.toList p n).toArray⟩ := by
 have e : (min (n : Int) ((s.size - (p + 1) : Nat) : Int)).toNat = min n (s.size - (p + 1)) := by omega
 have hl : (s.data.toList.drop (p + 1)).length = s.size - (p + 1) := by rw [List.length_drop, Array.length_toList]; rfl
 rw [e, extract_eq, extract_eq]
 unfold behindL
 rw [List.drop_zero, Nat.sub_zero]
 refine congrArg (fun l : List UInt8 => ByteArray.mk l.toArray) ?_
 show List.take _ (List.take _ (List.drop (p + 1) s.data.toList)) = _
 rw [List.take_take, Nat.min_assoc, Nat.min_self, ← hl, ← List.take_eq_take_min]
theorem behind_any (W : World) (s : ByteArray) (p n : Nat) (hp : p < s.size) (hs : s.size ≤ 1000000) (hn : n ≤ 1000000) :
  Calls Tryd.prog 36 #[.string s, .int .i64 (p : Int), .int .i64 (n : Int)] W fun e w' => e = .returned (.string ⟨(behindL s.data.toList p n).toArray⟩) ∧ w' = W := by
 go_enter Tryd.func36, Tryd.ntmps36
 go_wp2_with fail
 go_ret
 refine ⟨congrArg (fun x => Ending.returned (.string x)) ?_, rfl⟩
 exact behind_eq s p n
theorem lookS_any (W : World) (B n : Nat) (f : List UInt8 → Option Nat) (h : MapS W B n f) (s : List UInt8) (hs : s.length ≤ 1000000) :
  Calls Tryd.prog 66 #[.map (some B), .string ⟨s.toArray⟩] W fun e w' => e = .returned (lookSV f s) ∧ w' = W := by
 obtain ⟨y, hy⟩ : ∃ y, (f s).getD 0 = y := ⟨_, rfl⟩
 obtain ⟨b, hb⟩ : ∃ b, (f s).isSome = b := ⟨_, rfl⟩
 have e : lookSV f s = .tuple #[.int .u8 (y : Int), .bool b] := by unfold lookSV; rw [hy, hb]
 have HE := hid e
 have HM := hid h
 have HO := hid (show s.length ≤ maxLen from Nat.le_trans hs (by decide))
 rw [e]
 clear e hy hb h hs
 go_enter Tryd.func66, Tryd.ntmps66
 go_wp2_with (refine wpList_lookS _ rfl _ _ rfl _ _ _ rfl HM.out _ rfl HO.out ?_; rw [HE.out])
 go_ret2
 exact ⟨rfl, rfl⟩
theorem index_cut : ∀ (l : List UInt8), (cutM l = false → Lib.indexByte l 32 = -1 ∧ cutF l = l ∧ cutR l = []) ∧ (cutM l = true → ∃ i : Nat, Lib.indexByte l 32 = (i : Int) ∧ i < l.length ∧ cutF l = l.take i ∧ cutR l = l.drop (i + 1))
 | [] => ⟨fun _ => ⟨rfl, rfl, rfl⟩, fun h => by simp [cutM] at h⟩
 | a :: r => by
  obtain ⟨h1, h2⟩ := index_cut r
  unfold cutM cutF cutR Lib.indexByte
  by_cases ha : a = 32
  ·subst ha
   exact ⟨fun h => by simp at h, fun _ => ⟨0, by simp, by simp, by simp, by simp⟩⟩
  ·have hb : (a == 32) = false := by simpa using ha
   rw [if_neg ha, if_neg ha, if_neg ha, hb]
   refine ⟨fun h => ?_, fun h => ?_⟩
   ·obtain ⟨e1, e2, e3⟩ := h1 h
    rw [e1, e2, e3]
    simp
   ·obtain ⟨i, e1, e2, e3, e4⟩ := h2 h
    refine ⟨i + 1, ?_, by simpa using e2, by rw [e3]; rfl, by rw [e4]; rfl⟩
    rw [e1]
    have : ((i : Int) == -1) = false := by simp
    rw [this]
    simp
def cutVO (l : List UInt8) : Value := .tuple #[.string ⟨(cutF l).toArray⟩, .string ⟨(cutR l).toArray⟩, .bool (cutM l)]
theorem cutL_any (W : World) (s : ByteArray) (hs : s.size ≤ 1000000) :
  Calls Tryd.prog 75 #[.string s, .string ⟨#[32]⟩] W fun e w' => e = .returned (cutVO s.data.toList) ∧ Below W.heap.size W w' := by
 have hmx : Tryd.prog.follows .mixedOrders = true := by kernel_rfl
 have HI := hid (fun w => indexOne_any s 32 w)
 obtain ⟨hno, hyes⟩ := index_cut s.data.toList
 unfold cutVO
 cases hm : cutM s.data.toList with
 | false =>
  obtain ⟨e1, e2, e3⟩ := hno hm
  rw [e1] at HI
  rw [e2, e3]
  clear hno hyes e1 e2 e3 hm
  go_enter Tryd.func75, Tryd.ntmps75
  go_wp2_with (first | (go_at_call 83; refine (HI.out _).mono ?_; rintro _ w1 ⟨rfl, hw⟩; rw [hw]; clear hw w1) | go_in)
  refine bodyPost_ret (v := .tuple #[.string s, .string ⟨#[]⟩, .bool false]) (by simp [results, Tryd.f75, go_sem]) rfl ⟨rfl, Below.refl _ _⟩
 | true =>
  obtain ⟨i, e1, hi, e2, e3⟩ := hyes hm
  rw [e1] at HI
  have i0 : (0 : Int) ≤ (i : Int) := by omega
  have hsz : s.data.toList.length = s.size := by rw [Array.length_toList]; rfl
  have i1 : (i : Int) ≤ (s.size : Int) := by omega
  have i2 : (i : Int) + 1 ≤ (s.size : Int) := by omega
  have i3 : (s.size : Int) ≤ 1000000 := by omega
  rw [e2, e3]
  clear hno hyes e1 e2 e3 hm
  go_enter Tryd.func75, Tryd.ntmps75
  go_wp2_with (first | (go_at_call 83; refine (HI.out _).mono ?_; rintro _ w1 ⟨rfl, hw⟩; rw [hw]; clear hw w1) | go_in)
  refine wp_region_quietL (C := Grows _) hmx (by kernel_rfl) (grows_refl _) ?_
  repeat (go_big_quiet_step (fail))
  refine wpQuiet_nil ?_
  rintro _ ⟨x, rfl⟩
  go_wp2_with fail
  refine bodyPost_ret (v := .tuple #[.string (s.extract 0 i), .string (s.extract (i + 1) s.size), .bool true]) (by simp [results, Tryd.f75, go_sem]) rfl ⟨?_, x.below⟩
  have x1 : s.extract 0 i = ⟨(s.data.toList.take i).toArray⟩ := by rw [extract_eq, List.drop_zero, Nat.sub_zero]
  have x2 : s.extract (i + 1) s.size = ⟨(s.data.toList.drop (i + 1)).toArray⟩ := by
   rw [extract_eq, List.take_of_length_le (by rw [List.length_drop, hsz]; exact Nat.le_refl _)]
  rw [x1, x2]
theorem cut_any (W : World) (s : ByteArray) (hs : s.size ≤ 1000000) :
  Calls Tryd.prog 65 #[.string s, .string ⟨#[32]⟩] W fun e w' => e = .returned (cutVO s.data.toList) ∧ Below W.heap.size W w' := by
 have HC := hid (cutL_any W s hs)
 unfold cutVO at *
 generalize (⟨(cutF s.data.toList).toArray⟩ : ByteArray) = a at *
 generalize (⟨(cutR s.data.toList).toArray⟩ : ByteArray) = b at *
 generalize cutM s.data.toList = c at *
 go_enter Tryd.func65, Tryd.ntmps65
 go_wp2_with (go_at_call 75; refine HC.out.mono ?_; rintro _ w1 ⟨rfl, q1⟩)
 exact bodyPost_ret (v := .tuple #[.string a, .string b, .bool c]) (by simp [results, Tryd.f65, go_sem]) rfl ⟨rfl, q1⟩
end
section
open Go Go.RowKit
def SeqC (F : Fence) (n : Nat) (P : Program) (g : Nat) (lb : Array Value) (E : Nat → Array Value → World → Prop) (Kp Sj : World → World → Prop) (N : Nat) (w : World) : Prop :=
 ∀ (l : Nat) (J Jx : Nat → World → Prop) (W : World), Below w.heap.size w W → (∀ s A X, J s A → Sj A X → J s X) → (∀ s A X, Jx s A → Sj A X → Jx s X) →
  (∀ k args W1, k < N → J k W1 → E k args W1 → YieldAt F (n - 1) P l args W1 fun e W' =>
   (e = .returned (.bool true) ∧ J (k + 1) W' ∧ Kp W1 W') ∨ (e = .returned (.bool false) ∧ Jx k W')) →
  J 0 W →
  CallsIn F n P g (#[.func (.yield l) #[] #[]] ++ lb) W fun e W' => (∃ v, e = .returned v) ∧ (J N W' ∨ ∃ k, k < N ∧ Jx k W')
variable {F : Fence} {n : Nat} {P : Program}
theorem wpIn_rangeFunc_C {g : Operand} {ps : Array Tmp} {assign body : Code} {Q : Exit → Act → World → Prop} {a : Act} {w : World}
  (hro : F.round = none) (h1 : 1 ≤ n) {gf : Nat} {lb : Array Value} (hg : a.eval g = .func (.func gf) #[] lb) (hFg : F.fn gf) (eg : ∀ args w, (callFunc gf args).run P w = .ok (.enter gf args) w)
  {E : Nat → Array Value → World → Prop} {Kp Sj : World → World → Prop} {N : Nat} (hseq : SeqC F (n - 1) P gf lb E Kp Sj N w) (hSj : ∀ A X, Sj A X → ∀ (b : Nat) (o : Obj), A.heap[b]? = some o → o.isCells = false → X.heap[b]? = some o)
  (hKt : ∀ {A B C : World}, Kp A B → Kp B C → Kp A C) (hKb : ∀ (W : World) (l : Nat) (o o' : Obj), w.heap.size ≤ l → W.heap[l]? = some o → o.isCells = false → o.isWalk = false → Kp W (W.putObj l o')) (hps : ∀ k args W, k < N → E k args W → args.size = ps.size)
  (I : Nat → World → Prop) (Ix : Code → Nat → World → Prop) (hI : OwnFrom w.heap.size I) (hIx : ∀ c, OwnFrom w.heap.size (Ix c)) (hIb : ∀ s A X, I s A → Sj A X → I s X) (hIxb : ∀ c s A X, Ix c s A → Sj A X → Ix c s X) (h0 : I 0 w) (Ax : Nat → Act → World → Prop) (hAx : ∀ k a', OwnFrom w.heap.size (fun (_ : Unit) W => Ax k a' W))
  (hassign : ∀ (l k : Nat) (args : Array Value) (W : World) (K : Act → World → Prop), w.heap.size ≤ l → k < N → I k W → E k args W → (∀ a' W', KeepsFrom w.heap.size W W' → Kp W W' → I k W' → Ax k a' W' → K a' W') →
   assign.wpIn (F.inRound l) (n - 1 - 1) P (Exit.then K (fun _ _ _ => False)) { tmps := (ps.zip args).foldl (fun t (p, v) => t.setIfInBounds p v) a.tmps, defers := [] } W)
  (hbody : ∀ (l k : Nat) (a' : Act) (W : World), w.heap.size ≤ l → (∃ r, W.heap[l]? = some (.loop r)) → k < N → I k W → Ax k a' W → body.wpIn (F.inRound l) (n - 1 - 1) P (roundN w.heap.size Kp I Ix k W) a' W)
  (hdone : ∀ (D : Nat) (W : World), w.heap.size ≤ D → I N W → W.heap[D]? = some (.deferred (some [])) → Q .normal { a with defers := { target := .collected D, args := #[] } :: a.defers } W)
  (hstop : ∀ (D : Nat) (c : Code) (k : Nat) (W : World), w.heap.size ≤ D → k < N → Ix c k W → W.heap[D]? = some (.deferred (some [])) → c.wpIn F n P Q { a with defers := { target := .collected D, args := #[] } :: a.defers } W) :
  (Code.rangeFunc g ps assign body).wpIn F n P Q a w := by
 refine wpIn_rangeFunc ?_
 intro fn hfn
 rw [hro]
 obtain ⟨rec, hrec⟩ : ∃ rec : LoopState → Option Code → Loop, rec = fun st pe => { state := st, pending := pe, fn, tmps := a.tmps, params := ps, assign, body, defers := w.heap.size } := ⟨_, rfl⟩
 obtain ⟨W1, hW1⟩ : ∃ W1, (w.alloc (.deferred (some []))).alloc (.loop (rec .ready none)) = W1 := ⟨_, rfl⟩
 have hL1 : W1.heap[w.heap.size + 1]? = some (.loop (rec .ready none)) := by
  rw [← hW1]; have := World.alloc_heap_new (w.alloc (.deferred (some []))) (.loop (rec .ready none)); rwa [World.size_alloc] at this
 have hK1 : W1.heap[w.heap.size]? = some (.deferred (some [])) := by
  rw [← hW1]; exact (Below.heap_alloc _ _ _ (by simp)).trans (World.alloc_heap_new w _)
 have hI1 : I 0 W1 := by rw [← hW1]; exact hI.alloc _ (hI.alloc _ h0)
 have hb1 : Below w.heap.size w W1 := by
  rw [← hW1]; exact ((Below.refl _ w).alloc (Nat.le_refl _) _).alloc (by simp) _
 refine ⟨w.heap.size + 1, [{ target := .collected w.heap.size, args := #[] }], W1, { target := .fn (.func gf) lb, args := #[.func (.yield (w.heap.size + 1)) #[] #[]] }, W1, gf,
  #[.func (.yield (w.heap.size + 1)) #[] #[]] ++ lb, W1, ?_, ?_, ?_, ?_, fun _ => h1, ?_⟩
 ·rw [← hW1, hrec]; exact run_enterLoop_outer _ _ _ _ _
 ·simp only [resolve, hg]
  simp [go_sem]
 ·intro f' hf'; simp [Target.leads] at hf'; subst hf'; exact hFg
 ·simp [invoke, go_sem, eg]
 ·skip
  refine (hseq (w.heap.size + 1)
   (fun k W => I k W ∧ W.heap[w.heap.size + 1]? = some (.loop (rec .ready none)) ∧ W.heap[w.heap.size]? = some (.deferred (some [])))
   (fun k W => ∃ c, Ix c k W ∧ W.heap[w.heap.size + 1]? = some (.loop (rec .done (some c))) ∧ W.heap[w.heap.size]? = some (.deferred (some [])))
   W1 hb1
   (fun s A X hs hb => ⟨hIb s A X hs.1 hb, hSj A X hb _ _ hs.2.1 rfl, hSj A X hb _ _ hs.2.2 rfl⟩)
   (fun s A X hs hb => by
    obtain ⟨c, hc, hl, hk⟩ := hs
    exact ⟨c, hIxb c s A X hc hb, hSj A X hb _ _ hl rfl, hSj A X hb _ _ hk rfl⟩)
   ?_ ⟨hI1, hL1, hK1⟩).mono ?_
  ·rintro k args W hkN ⟨hi, hl, hk⟩ hE
   have hlt : w.heap.size + 1 < W.heap.size := (Array.getElem?_eq_some_iff.1 hl).1
   have hy := run_yield (P := P) (args := args) hl (by rw [hrec]; exact hps k args W hkN hE)
   rw [hrec] at hy
   refine ⟨fn, _, assign, body, hy, roundIn_of_wpIn hfn (hassign _ k args W _ (by omega) hkN hi hE ?_)⟩
   clear hy
   intro a' Wa hkfa hkpa hia hax
   replace hl := hkfa.same _ _ (by omega) hl rfl
   replace hk := hkfa.same _ _ (Nat.le_refl _) hk rfl
   replace hlt : w.heap.size + 1 < Wa.heap.size := (Array.getElem?_eq_some_iff.1 hl).1
   refine ⟨_, run_beginRound hl (by rw [hrec]), ?_⟩
   have hl2 : (Wa.putObj (w.heap.size + 1) (.loop { rec .ready none with state := .busy })).heap[w.heap.size + 1]? = some (.loop { rec .ready none with state := .busy }) := World.putObj_heap_same hlt
   have hk2 : (Wa.putObj (w.heap.size + 1) (.loop { rec .ready none with state := .busy })).heap[w.heap.size]? = some (.deferred (some [])) := (World.putObj_heap_other (by omega)).trans hk
   have hw2 : Kp Wa (Wa.putObj (w.heap.size + 1) (.loop { rec .ready none with state := .busy })) := hKb _ _ _ _ (by omega) hl rfl rfl
   refine wpIn_mono (hbody _ k a' _ (by omega) ⟨_, hl2⟩ hkN (hI.putObj _ hia (by omega) hl rfl) ((hAx k a').putObj (s := ()) _ hax (by omega) hl rfl)) ?_
   have fin : ∀ (jump : Option Code) (W3 : World), KeepsFrom w.heap.size (Wa.putObj (w.heap.size + 1) (.loop { rec .ready none with state := .busy })) W3 →
     (Instr.endRound (w.heap.size + 1) jump).run P W3 = .ok (.bool jump.isNone) (W3.putObj (w.heap.size + 1) (.loop (rec (if jump.isNone then .ready else .done) jump))) ∧
     W3.heap[w.heap.size + 1]? = some (.loop { rec .ready none with state := .busy }) ∧
     (W3.putObj (w.heap.size + 1) (.loop (rec (if jump.isNone then .ready else .done) jump))).heap[w.heap.size + 1]? = some (.loop (rec (if jump.isNone then .ready else .done) jump)) ∧
     (W3.putObj (w.heap.size + 1) (.loop (rec (if jump.isNone then .ready else .done) jump))).heap[w.heap.size]? = some (.deferred (some [])) := fun jump W3 hk3 => by
    have hl3 := hk3.same _ _ (by omega) hl2 rfl
    have := run_endRound (P := P) jump hl3
    rw [hrec] at this ⊢
    exact ⟨this, by rw [hrec] at hl3; exact hl3, World.putObj_heap_same (Array.getElem?_eq_some_iff.1 hl3).1, (World.putObj_heap_other (by omega)).trans (hk3.same _ _ (Nat.le_refl _) hk2 rfl)⟩
   rintro e a3 W3 hp
   cases e with
   | normal =>
    obtain ⟨hk3, hkp3, hi3⟩ := hp
    obtain ⟨hr, hl3, hl4, hk4⟩ := fin none W3 hk3
    exact ⟨_, _, hr, .inl ⟨rfl, ⟨hI.putObj _ hi3 (by omega) hl3 rfl, hl4, hk4⟩, hKt hkpa (hKt (hKt hw2 hkp3) (hKb _ _ _ _ (by omega) hl3 rfl rfl))⟩⟩
   | ret =>
    obtain ⟨hk3, hi3⟩ := hp
    obtain ⟨hr, hl3, hl4, hk4⟩ := fin (some .ret) W3 hk3
    exact ⟨_, _, hr, .inr ⟨rfl, .ret, (hIx _).putObj _ hi3 (by omega) hl3 rfl, hl4, hk4⟩⟩
   | exit id =>
    obtain ⟨hk3, hi3⟩ := hp
    obtain ⟨hr, hl3, hl4, hk4⟩ := fin (some (.exit id)) W3 hk3
    exact ⟨_, _, hr, .inr ⟨rfl, .exit id, (hIx _).putObj _ hi3 (by omega) hl3 rfl, hl4, hk4⟩⟩
   | goto t =>
    obtain ⟨hk3, hi3⟩ := hp
    obtain ⟨hr, hl3, hl4, hk4⟩ := fin (some (.goto t)) W3 hk3
    exact ⟨_, _, hr, .inr ⟨rfl, .goto t, (hIx _).putObj _ hi3 (by omega) hl3 rfl, hl4, hk4⟩⟩
   | panic ch => exact hp.elim
   | outgrown => exact hp.elim
  ·rintro e W2 ⟨⟨v, rfl⟩, (⟨hi, hl, hk⟩ | ⟨k, hkN, c, hi, hl, hk⟩)⟩
   ·exact ⟨none, _, by have := run_endLoop (P := P) hl (by rw [hrec]; simp); rw [hrec] at this; exact this, hdone _ _ (Nat.le_refl _) (hI.putObj _ hi (by omega) hl rfl) ((World.putObj_heap_other (by omega)).trans hk)⟩
   ·exact ⟨some c, _, by have := run_endLoop (P := P) hl (by rw [hrec]; simp); rw [hrec] at this; exact this, hstop _ c k _ (Nat.le_refl _) hkN ((hIx c).putObj _ hi (by omega) hl rfl) ((World.putObj_heap_other (by omega)).trans hk)⟩
end
end Go.Proofs.YthcmfadofogfaaaDoor
