import Derived.Test.YtbbpmcebakckaaaGreatDoorU16
import Derived.Lib.ReflectliteSwap
import Derived.LoopN
/- errors.As at the reader's errors: what the type's table answers. Conditions: none. -/
namespace Go.Proofs.YtbbpmcebakckaaaGreatDoor
open Go Go.RowKit Go.Extern Go.Extern.Rtype
attribute [local go_sem] Oper.semAt_some Grows wide_fn

/-- A type's handle. -/
noncomputable abbrev hd (t : Nat) : Value := .pointer (some ⟨Tryz.prog.globals.size, t, none⟩)
theorem e_valueOf (B : Nat) (W : World) : (callFunc 57 #[.iface 71 (.pointer (some ⟨B, 0, none⟩))]).run Tryz.prog W = .ok (.value (.agg #[hd 71, .pointer (some ⟨W.heap.size, 0, none⟩), .int .u64 150])) (W.alloc (.cells #[.pointer (some ⟨B, 0, none⟩)] 71)) := by kernel_rfl
theorem e_valueOf2 (x p : Int) (W : World) : (callFunc 57 #[.iface 69 (.agg #[.int .i64 x, .int .i64 p])]).run Tryz.prog W = .ok (.value (.agg #[hd 69, .pointer (some ⟨W.heap.size, 0, none⟩), .int .u64 153])) (W.alloc (.cells #[.int .i64 x, .int .i64 p] 69)) := by kernel_rfl
theorem e_typeOf (x p : Int) (W : World) : (callFunc 77 #[.iface 69 (.agg #[.int .i64 x, .int .i64 p])]).run Tryz.prog W = .ok (.value (.iface 134 (.agg #[hd 69]))) W := by kernel_rfl
theorem e_type (A : Addr) (W : World) : (callFunc 58 #[.agg #[hd 71, .pointer (some A), .int .u64 150]]).run Tryz.prog W = .ok (.value (.iface 134 (.agg #[hd 71]))) W := by kernel_rfl
theorem m_kind (v : Value) (W : World) : (method 313 134 (.agg #[v]) "Kind").run Tryz.prog W = .ok (119, v) W := by kernel_rfl
theorem m_elem (v : Value) (W : World) : (method 313 134 (.agg #[v]) "Elem").run Tryz.prog W = .ok (131, .agg #[v]) W := by kernel_rfl
theorem m_impl (v : Value) (W : World) : (method 313 134 (.agg #[v]) "Implements").run Tryz.prog W = .ok (132, .agg #[v]) W := by kernel_rfl
theorem m_assign (v : Value) (W : World) : (method 313 134 (.agg #[v]) "AssignableTo").run Tryz.prog W = .ok (129, .agg #[v]) W := by kernel_rfl
theorem e_kind1 (W : World) : (callFunc 119 #[hd 71]).run Tryz.prog W = .ok (.value (.int .u8 22)) W := by kernel_rfl
theorem e_kind2 (W : World) : (callFunc 119 #[hd 69]).run Tryz.prog W = .ok (.value (.int .u8 25)) W := by kernel_rfl
theorem e_elemT (W : World) : (callFunc 131 #[.agg #[hd 71]]).run Tryz.prog W = .ok (.value (.iface 134 (.agg #[hd 69]))) W := by kernel_rfl
theorem e_impl (W : World) : (callFunc 132 #[.agg #[hd 69], .iface 134 (.agg #[hd 65])]).run Tryz.prog W = .ok (.value (.bool true)) W := by kernel_rfl
theorem e_assign (W : World) : (callFunc 129 #[.agg #[hd 69], .iface 134 (.agg #[hd 69])]).run Tryz.prog W = .ok (.value (.bool true)) W := by kernel_rfl
end Go.Proofs.YtbbpmcebakckaaaGreatDoor

/- errors.As at the reader's errors: what its calls do with memory. Conditions: the cells that are read. -/
namespace Go.Proofs.YtbbpmcebakckaaaGreatDoor
open Go Go.RowKit Go.Extern Go.Extern.Rtype Go.Lib
attribute [local go_sem] Oper.semAt_some Grows wide_fn

theorem x_isNil (args : Array Value) (w : World) : (callFunc 59 args).run Tryz.prog w = ((ReflectliteValue.method (ReflectliteValue.valueError "reflectlite.Value.IsNil" 0) ReflectliteValue.isNil args).run Tryz.prog w).andThen fun v w' => .ok (.value v) w' :=
  run_callFunc_extern Tryz.func59 (by kernel_rfl) (by kernel_rfl) (by kernel_rfl) (by kernel_rfl) args w
theorem x_elem (args : Array Value) (w : World) : (callFunc 78 args).run Tryz.prog w = ((ReflectliteValue.method (ReflectliteValue.valueError "reflectlite.Value.Elem" 0) ReflectliteValue.elem args).run Tryz.prog w).andThen fun v w' => .ok (.value v) w' :=
  run_callFunc_extern Tryz.func78 (by kernel_rfl) (by kernel_rfl) (by kernel_rfl) (by kernel_rfl) args w
theorem x_set (args : Array Value) (w : World) : (callFunc 79 args).run Tryz.prog w = ((ReflectliteValue.set args).run Tryz.prog w).andThen fun v w' => .ok (.value v) w' :=
  run_callFunc_extern Tryz.func79 (by kernel_rfl) (by kernel_rfl) (by kernel_rfl) (by kernel_rfl) args w
theorem p_77 (A : Addr) (W : World) : (ReflectliteValue.parts (.agg #[hd 71, .pointer (some A), .int .u64 150])).run Tryz.prog W = .ok (some (71, A, 150)) W := by kernel_rfl
theorem p_75 (A : Addr) (W : World) : (ReflectliteValue.parts (.agg #[hd 69, .pointer (some A), .int .u64 409])).run Tryz.prog W = .ok (some (69, A, 409)) W := by kernel_rfl
theorem p_75b (A : Addr) (W : World) : (ReflectliteValue.parts (.agg #[hd 69, .pointer (some A), .int .u64 153])).run Tryz.prog W = .ok (some (69, A, 153)) W := by kernel_rfl
theorem rl_set (v x : Value) : ReflectliteValue.set #[v, x] = (do
    let (some (dst, a, fl), some (src, b, _)) := (← ReflectliteValue.parts v, ← ReflectliteValue.parts x)
      | unsupported (.noEntry "extern/(internal/reflectlite.Value).Set.zeroValue")
    if fl / ReflectliteValue.flagAddr % 2 == 0 then unsupported (.noEntry "extern/(internal/reflectlite.Value).Set.unaddressable")
    let val ← loadVar src b
    if ← directlyAssignable dst src then storeVar dst a val
    else if ← implements dst src then
      if (← kind src) == 20 then
        match val with
        | .nilIface => unsupported (.noEntry "extern/reflectlite: a nil value of one interface type handed on as a value of another")
        | _ => storeVar dst a val
      else storeVar dst a (.iface src val)
    else panicString ("reflectlite.Set: value of type " ++ (← spelt src) ++ " is not assignable to type " ++ (← spelt dst))
    pure (.tuple #[])) := rfl
theorem e_isNil (A : Addr) (p : Addr) (W : World) (h : W.cell? A = some (.pointer (some p))) : (callFunc 59 #[.agg #[hd 71, .pointer (some A), .int .u64 150]]).run Tryz.prog W = .ok (.value (.bool false)) W := by
  rw [x_isNil, rl_method]
  have ha : (isAgg 71).run Tryz.prog W = .ok false W := by kernel_rfl
  simp [p_77, ReflectliteValue.isNil, loadVar, ha, h, Result.andThen]
theorem e_elemV (A : Addr) (p : Addr) (W : World) (h : W.cell? A = some (.pointer (some p))) : (callFunc 78 #[.agg #[hd 71, .pointer (some A), .int .u64 150]]).run Tryz.prog W = .ok (.value (.agg #[hd 69, .pointer (some p), .int .u64 409])) W := by
  rw [x_elem, rl_method]
  have ha : (isAgg 71).run Tryz.prog W = .ok false W := by kernel_rfl
  have he : (elem? 71).run Tryz.prog W = .ok (some 69) W := by kernel_rfl
  have hm : (ReflectliteValue.mk 69 p ReflectliteValue.flagAddr).run Tryz.prog W = .ok (.agg #[hd 69, .pointer (some p), .int .u64 409]) W := by kernel_rfl
  simp [p_77, ReflectliteValue.elem, loadVar, ha, h, he, hm, Result.andThen]
theorem e_set (B C : Nat) (x p x0 p0 : Int) (W : World) (hB : Has W B 69 #[.int .i64 x0, .int .i64 p0]) (hC : Has W C 69 #[.int .i64 x, .int .i64 p]) :
    (callFunc 79 #[.agg #[hd 69, .pointer (some ⟨B, 0, none⟩), .int .u64 409], .agg #[hd 69, .pointer (some ⟨C, 0, none⟩), .int .u64 153]]).run Tryz.prog W = .ok (.value (.tuple #[])) ((W.setCell ⟨B, 0, none⟩ (.int .i64 x)).setCell ⟨B, 1, none⟩ (.int .i64 p)) := by
  obtain ⟨ie, hie, hsz⟩ : ∃ ie, Tryz.prog.info? 69 = some ie ∧ ie.size = 2 := by
    have h : (Tryz.prog.info? 69).map (fun i => i.size) = some 2 := by kernel_rfl
    rcases hi : Tryz.prog.info? 69 with _ | i
    · rw [hi] at h; cases h
    · rw [hi] at h; injection h with h; exact ⟨i, rfl, h⟩
  have hl := rl_loadVar_cells (P := Tryz.prog) 69 ie hie (fun w => by kernel_rfl) C 0 [.int .i64 x, .int .i64 p] (by rw [hsz]; rfl) W (fun k v hk => by
    rw [Nat.zero_add]
    exact hC.cell k v (by simpa using hk))
  have hst := rl_storeVar_cells (P := Tryz.prog) 69 ie hie B 0 [.int .i64 x, .int .i64 p] (by rw [hsz]; rfl) (by simp [Value.oneCell']) W (fun k hk => by
    rw [Nat.zero_add]
    have : k = 0 ∨ k = 1 := by simp at hk; omega
    rcases this with rfl | rfl
    · rw [hB.cell 0 _ rfl]; rfl
    · rw [hB.cell 1 _ rfl]; rfl) (fun k _ => by rw [Nat.zero_add]; exact hB.frozen k)
  have hda : (directlyAssignable 69 69).run Tryz.prog W = .ok true W := by kernel_rfl
  have hfin : W.setCells B 0 [.int .i64 x, .int .i64 p] = (W.setCell ⟨B, 0, none⟩ (.int .i64 x)).setCell ⟨B, 1, none⟩ (.int .i64 p) := rfl
  rw [x_set, rl_set]
  simp [p_75, p_75b, hl, hst, hda, ReflectliteValue.flagAddr, Result.andThen, hfin]
end Go.Proofs.YtbbpmcebakckaaaGreatDoor

/- errors.As at the reader's errors. Conditions: errors.errorType lies in memory as it was laid. -/
namespace Go.Proofs.YtbbpmcebakckaaaGreatDoor
open Go Go.RowKit Go.Extern
attribute [local go_sem] Oper.semAt_some Grows wide_fn

/-- errors.errorType, as it was laid. -/
def TabE (W : World) : Prop := W.cell? ⟨0, 0, none⟩ = some (.iface 134 (.agg #[hd 65])) ∧ 0 < W.heap.size
theorem TabE.later {W X : World} (h : TabE W) (hb : Below W.heap.size W X) : TabE X := ⟨(hb.cell (p := ⟨0, 0, none⟩) h.2).trans h.1, Nat.lt_of_lt_of_le h.2 hb.size⟩
theorem TabE.grown {W X : World} {B : Nat} (h : TabE W) (hg : W.grownBy X (some B)) (hB : 0 < B) : TabE X := ⟨hg.cell h.1 (by simp; omega), Nat.lt_of_lt_of_le h.2 hg.size⟩

set_option maxRecDepth 100000 in
set_option maxHeartbeats 2000000 in
theorem as2_flt (x p x0 p0 : Int) (A B : Nat) (w : World) (hA : w.cell? ⟨A, 0, none⟩ = some (.pointer (some ⟨B, 0, none⟩))) (hB : Has w B 69 #[.int .i64 x0, .int .i64 p0]) :
    Calls Tryz.prog 60 #[.iface 69 (.agg #[.int .i64 x, .int .i64 p]), .iface 71 (.pointer (some ⟨B, 0, none⟩)), .agg #[hd 71, .pointer (some ⟨A, 0, none⟩), .int .u64 150], .iface 134 (.agg #[hd 69])] w
      fun e w' => e = .returned (.bool true) ∧ (Has w' B 69 #[.int .i64 x, .int .i64 p] ∧ w.grownBy w' (some B)) := by
  have hmx : Tryz.prog.follows .mixedOrders = true := by kernel_rfl
  have hlA := ltCell hA
  have N1 := Has.new w 105 #[hd 71, .pointer (some ⟨A, 0, none⟩), .int .u64 150]
  have Q1 := (Below.refl w.heap.size w).alloc (Nat.le_refl _) (.cells #[hd 71, .pointer (some ⟨A, 0, none⟩), .int .u64 150] 105)
  have y0 := N1.cell 0 _ rfl
  have y1 := N1.cell 1 _ rfl
  have y2 := N1.cell 2 _ rfl
  obtain ⟨W1, hW1⟩ : ∃ W1, w.alloc (.cells #[hd 71, .pointer (some ⟨A, 0, none⟩), .int .u64 150] 105) = W1 := ⟨_, rfl⟩
  rw [hW1] at N1 Q1 y0 y1 y2
  have hA1 : W1.cell? ⟨A, 0, none⟩ = some (.pointer (some ⟨B, 0, none⟩)) := (Q1.cell (p := ⟨A, 0, none⟩) hlA).trans hA
  have hB1 := hB.later Q1
  have k1 := e_typeOf x p W1
  have k2 := m_assign (hd 69) W1
  have k3 := e_assign W1
  have k4 := e_elemV ⟨A, 0, none⟩ ⟨B, 0, none⟩ W1 hA1
  have k5 := e_valueOf2 x p W1
  have N2 := Has.new W1 69 #[.int .i64 x, .int .i64 p]
  have Q2 := (Below.refl W1.heap.size W1).alloc (Nat.le_refl _) (.cells #[.int .i64 x, .int .i64 p] 69)
  obtain ⟨W2, hW2⟩ : ∃ W2, W1.alloc (.cells #[.int .i64 x, .int .i64 p] 69) = W2 := ⟨_, rfl⟩
  rw [hW2] at N2 Q2 k5
  have k6 := e_set B W1.heap.size x p x0 p0 W2 (hB1.later Q2) N2
  have S := Lib.hid (((hB1.later Q2).set 0 (.int .i64 x)).set 1 (.int .i64 p))
  have G := Lib.hid (grown_set (grown_set (grown_of_below (Q1.trans (Q2.mono Q1.size)) (some B)) (p := ⟨B, 0, none⟩) (.inl rfl) (.int .i64 x)) (p := ⟨B, 1, none⟩) (.inl rfl) (.int .i64 p))
  replace N1 := Lib.hid N1
  replace N2 := Lib.hid N2
  replace Q1 := Lib.hid Q1
  replace Q2 := Lib.hid Q2
  replace hB1 := Lib.hid hB1
  replace hB := Lib.hid hB
  clear hA hA1 hlA
  unfold hd at *
  generalize Tryz.prog.globals.size = G0 at *
  go_enter Tryz.func60, Tryz.ntmps60
  go_wp2_with fail
  refine wp_loop_rounds 1 ?_
  rw [rounds_succ]
  go_wp2_with fail
  go_ret
  exact ⟨rfl, S.out, G.out⟩

set_option maxRecDepth 100000 in
set_option maxHeartbeats 2000000 in
theorem as_nil (v : Value) (w : World) : Calls Tryz.prog 40 #[.nilIface, v] w fun e w' => e = .returned (.bool false) ∧ w = w' := by
  go_enter Tryz.func40, Tryz.ntmps40
  go_wp2_with fail
  go_ret
  exact ⟨rfl, rfl⟩

set_option maxRecDepth 100000 in
set_option maxHeartbeats 2000000 in
theorem as_flt (x p x0 p0 : Int) (B : Nat) (w : World) (hT : TabE w) (hB : Has w B 69 #[.int .i64 x0, .int .i64 p0]) (hB0 : 0 < B) :
    Calls Tryz.prog 40 #[.iface 69 (.agg #[.int .i64 x, .int .i64 p]), .iface 71 (.pointer (some ⟨B, 0, none⟩))] w fun e w' => e = .returned (.bool true) ∧ (Has w' B 69 #[.int .i64 x, .int .i64 p] ∧ w.grownBy w' (some B)) := by
  have hmx : Tryz.prog.follows .mixedOrders = true := by kernel_rfl
  have h1 := e_valueOf B w
  have NA := (Has.new w 71 #[.pointer (some ⟨B, 0, none⟩)]).alloc (.cells #[hd 71, .pointer (some ⟨w.heap.size, 0, none⟩), .int .u64 150] 105)
  have NB := (hB.alloc (.cells #[.pointer (some ⟨B, 0, none⟩)] 71)).alloc (.cells #[hd 71, .pointer (some ⟨w.heap.size, 0, none⟩), .int .u64 150] 105)
  have NV := Has.new (w.alloc (.cells #[.pointer (some ⟨B, 0, none⟩)] 71)) 105 #[hd 71, .pointer (some ⟨w.heap.size, 0, none⟩), .int .u64 150]
  have N1 := Has.new (w.alloc (.cells #[.pointer (some ⟨B, 0, none⟩)] 71)) 105 #[.pointer none, .pointer none, .int .u64 0]
  have Q := ((Below.refl w.heap.size w).alloc (Nat.le_refl _) (.cells #[.pointer (some ⟨B, 0, none⟩)] 71)).alloc (by simp) (.cells #[hd 71, .pointer (some ⟨w.heap.size, 0, none⟩), .int .u64 150] 105)
  simp only [World.size_alloc] at N1 NV
  have x0' := N1.cell 0 _ rfl
  have x1' := N1.cell 1 _ rfl
  have x2' := N1.cell 2 _ rfl
  have f0 := N1.frozen 0
  have f1 := N1.frozen 1
  have f2 := N1.frozen 2
  have v0 := NV.cell 0 _ rfl
  have v1 := NV.cell 1 _ rfl
  have v2 := NV.cell 2 _ rfl
  have hT2 := (hT.later Q).1
  have hNA := NA.cell 0 _ rfl
  obtain ⟨W1, hW1⟩ : ∃ W1, (w.alloc (.cells #[.pointer (some ⟨B, 0, none⟩)] 71)).alloc (.cells #[hd 71, .pointer (some ⟨w.heap.size, 0, none⟩), .int .u64 150] 105) = W1 := ⟨_, rfl⟩
  rw [hW1] at v0 v1 v2 hT2 hNA NB Q
  have k2 := e_type ⟨w.heap.size, 0, none⟩ W1
  have k3 := m_kind (hd 71) W1
  have k4 := e_kind1 W1
  have k5 := e_isNil ⟨w.heap.size, 0, none⟩ ⟨B, 0, none⟩ W1 hNA
  have k6 := m_elem (hd 71) W1
  have k7 := e_elemT W1
  have k8 := m_kind (hd 69) W1
  have k9 := e_kind2 W1
  have k10 := m_impl (hd 69) W1
  have k11 := e_impl W1
  have HC := Lib.hid (as2_flt x p x0 p0 w.heap.size B W1 hNA NB)
  replace hW1 := Lib.hid hW1
  replace NA := Lib.hid NA
  replace NB := Lib.hid NB
  replace NV := Lib.hid NV
  replace N1 := Lib.hid N1
  replace Q := Lib.hid Q
  replace hT := Lib.hid hT
  replace hB := Lib.hid hB
  clear hNA
  unfold hd at *
  generalize Tryz.prog.globals.size = G0 at *
  go_enter Tryz.func40, Tryz.ntmps40
  go_wp2_with fail
  rw [hW1.out, k2]
  clear h1 x0' x1' x2' f0 f1 f2
  go_wp2_with fail
  refine HC.out.mono ?_
  rintro _ W5 ⟨rfl, h5, g5⟩
  have hE := Lib.hid (And.intro h5 (grown_after Q.out g5))
  clear h5 g5
  go_wp2_with fail
  go_ret
  exact ⟨rfl, hE.out⟩
end Go.Proofs.YtbbpmcebakckaaaGreatDoor
