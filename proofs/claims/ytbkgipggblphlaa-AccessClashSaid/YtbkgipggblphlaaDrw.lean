/- What a call draws it draws behind what was drawn before: no step of a machine takes a draw back. Conditions: none. -/
import Derived.Calls
namespace Go.Proofs.Ytbkgipggblphlaa
open Go

def _root_.Go.Result.at {α : Type} : Result α → World
  | .ok _ w => w
  | .halt _ w => w

theorem ask_up {α : Type} : ∀ (a : Ask α) (w : World), w.drawn ≤ (w.ask a).2.drawn
  | .done _, w => by simp [World.ask]
  | .ask what range k, w => by
    unfold World.ask
    simp only
    split
    · exact ask_up (k 0) w
    · exact Nat.le_trans (Nat.le_succ _) (ask_up (k _) { w with drawn := w.drawn + 1 })

theorem sys_up (w : World) (c : Sys) : w.drawn ≤ (w.sys c).2.drawn := by
  unfold World.sys
  have h := ask_up (Kernel.perform c w.os) w
  split
  · exact Nat.le_refl _
  · rename_i r os w' hne e
    rw [e] at h
    exact h

theorem farStore_up {p : Program} {w w' : World} {a : Addr} {v : Value} {b : Bool} {l : List Addr} (h : w.farStore p a v b = .ok (w', l)) : w'.drawn = w.drawn := by
  unfold World.farStore at h
  split at h
  · split at h
    · rename_i r hr
      cases h
      unfold World.viewStore at hr
      simp only [bind, Except.bind, pure, Except.pure] at hr
      repeat' split at hr
      all_goals first | (cases hr; done) | (cases hr; rfl)
    · cases h
  · cases h

theorem freeze_up (w : World) (a : Addr) (n : Nat) : (w.freeze a n).drawn = w.drawn := by
  unfold World.freeze; split <;> rfl

theorem run_up {α : Type} (p : Program) : ∀ (s : Sem α) (w : World), w.drawn ≤ (s.run p w).at.drawn
  | .pure a, w => Nat.le_refl _
  | .load m a k, w => by
    simp only [Sem.run]
    split
    · exact run_up p (k _) w
    · split
      · exact run_up p (k _) w
      · exact Nat.le_refl _
  | .store m a v k, w => by
    cases v <;> simp only [Sem.run] <;> first | exact Nat.le_refl _ | skip
    all_goals
      split
      · split
        · exact Nat.le_refl _
        · exact run_up p k (w.setCell a _)
      · split
        · rename_i h
          exact Nat.le_trans (Nat.le_of_eq (farStore_up h).symm) (run_up p k _)
        · exact Nat.le_refl _
  | .new o k, w => run_up p (k _) { w with heap := w.heap.push o }
  | .shape r k, w => run_up p (k _) w
  | .freeze a n k, w => Nat.le_trans (Nat.le_of_eq (freeze_up w a n).symm) (run_up p k (w.freeze a n))
  | .frozen a k, w => run_up p (k _) w
  | .getObj r k, w => by
    simp only [Sem.run]
    split
    · exact Nat.le_refl _
    · exact run_up p (k _) w
    · exact Nat.le_refl _
  | .setObj r o k, w => by
    simp only [Sem.run]
    split
    · exact Nat.le_refl _
    · exact run_up p k { w with heap := w.heap.setIfInBounds r o }
    · exact Nat.le_refl _
  | .choose q k, w => by
    simp only [Sem.run]
    split
    · exact run_up p (k _) w
    · exact Nat.le_trans (Nat.le_succ _) (run_up p (k _) { w with drawn := w.drawn + 1 })
  | .sys c k, w => Nat.le_trans (sys_up w c) (run_up p (k (w.sys c).1) (w.sys c).2)
  | .program k, w => run_up p (k p) w
  | .mark _ k, w => run_up p k w
  | .halt h, w => Nat.le_refl _

theorem runT_up {α : Type} (p : Program) : ∀ (s : Sem α) (w : World) (es : Array Event), w.drawn ≤ (s.runT p w es).1.at.drawn
  | .pure a, w, es => Nat.le_refl _
  | .load m a k, w, es => by
    simp only [Sem.runT]
    split
    · exact runT_up p (k _) w _
    · split
      · exact runT_up p (k _) w _
      · exact Nat.le_refl _
  | .store m a v k, w, es => by
    cases v <;> simp only [Sem.runT] <;> first | exact Nat.le_refl _ | skip
    all_goals
      split
      · split
        · exact Nat.le_refl _
        · exact runT_up p k (w.setCell a _) _
      · split
        · rename_i h
          exact Nat.le_trans (Nat.le_of_eq (farStore_up h).symm) (runT_up p k _ _)
        · exact Nat.le_refl _
  | .new o k, w, es => runT_up p (k _) { w with heap := w.heap.push o } _
  | .shape r k, w, es => runT_up p (k _) w _
  | .freeze a n k, w, es => Nat.le_trans (Nat.le_of_eq (freeze_up w a n).symm) (runT_up p k (w.freeze a n) _)
  | .frozen a k, w, es => runT_up p (k _) w _
  | .getObj r k, w, es => by
    simp only [Sem.runT]
    split
    · exact Nat.le_refl _
    · exact runT_up p (k _) w _
    · exact Nat.le_refl _
  | .setObj r o k, w, es => by
    simp only [Sem.runT]
    split
    · exact Nat.le_refl _
    · exact runT_up p k { w with heap := w.heap.setIfInBounds r o } _
    · exact Nat.le_refl _
  | .choose q k, w, es => by
    simp only [Sem.runT]
    split
    · exact runT_up p (k _) w _
    · exact Nat.le_trans (Nat.le_succ _) (runT_up p (k _) { w with drawn := w.drawn + 1 } _)
  | .sys c k, w, es => Nat.le_trans (sys_up w c) (runT_up p (k (w.sys c).1) (w.sys c).2 _)
  | .program k, w, es => runT_up p (k p) w _
  | .mark _ k, w, es => runT_up p k w _
  | .halt h, w, es => Nat.le_refl _

theorem run_ok {α : Type} {p : Program} {s : Sem α} {w w' : World} {a : α} (h : s.run p w = .ok a w') : w.drawn ≤ w'.drawn := by have := run_up p s w; rw [h] at this; exact this
theorem run_halt {α : Type} {p : Program} {s : Sem α} {w w' : World} {a : Halt} (h : s.run p w = .halt a w') : w.drawn ≤ w'.drawn := by have := run_up p s w; rw [h] at this; exact this

def _root_.Go.GStep.at : GStep → World
  | .go _ w _ => w
  | .comm _ _ _ _ w _ => w
  | .spawn _ _ w _ => w
  | .count _ w _ => w
  | .timer _ _ w _ => w
  | .alone _ _ w _ => w
  | .newcoro _ _ _ w _ => w
  | .coroswitch _ _ _ w _ => w
  | .collect _ w _ => w
  | .watch _ w _ => w
  | .ended _ w _ => w
theorem after_at (es : Array Event) (s : GStep) : (GStep.after es s).at = s.at := by cases s <;> rfl
theorem runT_ok {α : Type} {p : Program} {s : Sem α} {w w' : World} {a : α} {es es' : Array Event} (h : s.runT p w es = (.ok a w', es')) : w.drawn ≤ w'.drawn := by have := runT_up p s w es; rw [h] at this; exact this
theorem runT_halt {α : Type} {p : Program} {s : Sem α} {w w' : World} {a : Halt} {es es' : Array Event} (h : s.runT p w es = (.halt a w', es')) : w.drawn ≤ w'.drawn := by have := runT_up p s w es; rw [h] at this; exact this
theorem runT_eq {α : Type} {p : Program} {s : Sem α} {w : World} {r : Result α} {es es' : Array Event} (h : s.runT p w es = (r, es')) : w.drawn ≤ r.at.drawn := by have := runT_up p s w es; rw [h] at this; exact this
theorem fst_ok {α : Type} {p : Program} {s : Sem α} {w w' : World} {a : α} {es : Array Event} (h : (s.runT p w es).1 = .ok a w') : w.drawn ≤ w'.drawn := by have := runT_up p s w es; rw [h] at this; exact this
theorem fst_halt {α : Type} {p : Program} {s : Sem α} {w w' : World} {a : Halt} {es : Array Event} (h : (s.runT p w es).1 = .halt a w') : w.drawn ≤ w'.drawn := by have := runT_up p s w es; rw [h] at this; exact this
theorem sys_eq {w w' : World} {c : Sys} {r : SysRet} (h : w.sys c = (r, w')) : w.drawn ≤ w'.drawn := by have := sys_up w c; rw [h] at this; exact this
theorem both_eq {α : Type} {p : Program} {s : Sem α} {w : World} {r : Result α} {b : Bool} {es : Array Event} (h : (if b = true then s.runT p w #[] else (s.run p w, #[])) = (r, es)) : w.drawn ≤ r.at.drawn := by
  split at h
  · exact runT_eq h
  · cases h; exact run_up p s w

theorem ite_up {c : Prop} [Decidable c] {A B : GStep} {n : Nat} (hA : n ≤ A.at.drawn) (hB : n ≤ B.at.drawn) : n ≤ (if c then A else B).at.drawn := by split <;> assumption
theorem endPrinting_at (p : Program) (fr : Frame) (v : Value) (w : World) : (endPrinting p fr v w).at = w := by
  unfold endPrinting; simp only; split <;> rfl
theorem endWith_up (w : World) (fd : Nat) (t : ByteArray) (o : Outcome) : w.drawn ≤ (endWith w fd t o).at.drawn := by
  unfold endWith; simp only
  split
  · rename_i e; have := sys_eq e; split <;> exact this
  · rename_i e; exact sys_eq e
  · rename_i e; exact sys_eq e
theorem endFatal_up (p : Program) (fr : Frame) (cs : List Frame) (d : Option Dying) (m : String) (w : World) : w.drawn ≤ (endFatal p fr cs d m w).at.drawn := by
  unfold endFatal; simp only
  split
  · rename_i e; exact run_ok e
  · rename_i e; exact run_halt e
  · rename_i e; exact run_halt e
theorem writeOn_up (p : Program) (fr : Frame) (d : Dying) (f : Fatal) (w : World) : w.drawn ≤ (writeOn p fr d f w).at.drawn := by
  unfold writeOn; simp only
  split
  · exact Nat.le_refl _
  · split
    · rename_i e; exact runT_ok e
    · rename_i e; exact runT_halt e
    · rename_i e; exact runT_halt e
    · rename_i e; exact runT_halt e
theorem die_up (p : Program) (fr : Frame) (d : Dying) (w : World) : w.drawn ≤ (die p fr d w).at.drawn := by
  unfold die
  split
  · exact writeOn_up _ _ _ _ _
  · split
    · split
      · exact Nat.le_refl _
      · exact endWith_up _ _ _ _
    · simp only
      split
      · exact Nat.le_refl _
      · split
        · rename_i e; exact run_ok e
        · rename_i e; exact run_halt e
      · simp only [after_at]
        split
        · rename_i e; exact fst_ok e
        · rename_i e; exact fst_ok e
        · rename_i e; exact fst_halt e
        · rename_i e; rw [endPrinting_at]; exact fst_halt e
        · exact Nat.le_refl _
      · exact Nat.le_refl _
theorem early_up (p : Program) (fr : Frame) (cs : List Frame) (d : Option Dying) (g : Nat) (w : World) : w.drawn ≤ (early p fr cs d g w).at.drawn := by
  unfold early; simp only
  repeat' split
  all_goals simp only [GStep.at]
  all_goals first | exact Nat.le_refl _ | exact run_ok ‹_› | exact run_halt ‹_›
theorem doReturn_up (p : Program) (main : Bool) (fr : Frame) (cs : List Frame) (d : Option Dying) (v : Value) (w : World) : (doReturn p main fr cs d v w).at = w := by
  unfold doReturn; simp only
  repeat' split
  all_goals rfl
theorem callDeferred_up (p : Program) (fr : Frame) (cs : List Frame) (d : Option Dying) (f : Deferred) (w : World) : w.drawn ≤ (callDeferred p fr cs d f w).at.drawn := by
  unfold callDeferred; simp only
  refine ite_up (Nat.le_refl _) ?_
  simp only [after_at]
  have h := runT_up p (invoke f.target f.args) w #[]
  generalize (Sem.runT p (invoke f.target f.args) w #[]).1 = r at h ⊢
  cases r with
  | ok n w' =>
    have h' : w.drawn ≤ w'.drawn := h
    cases n with
    | recover =>
      generalize fr.mode = m
      generalize tryRecover fr cs = t
      cases m <;> cases t <;> exact h'
    | alone on v => cases on <;> exact h'
    | coroswitch c e => cases e <;> exact h'
    | _ => exact h'
  | halt n w' =>
    have h' : w.drawn ≤ w'.drawn := h
    cases n with
    | fatal m => exact Nat.le_trans h' (endFatal_up _ _ _ _ _ _)
    | _ => exact h'
theorem unwind_up (p : Program) (main : Bool) (fr : Frame) (cs : List Frame) (d : Option Dying) (w : World) : w.drawn ≤ (unwind p main fr cs d w).at.drawn := by
  unfold unwind
  split
  · simp only [after_at]
    split
    · rename_i e; exact fst_ok e
    · rename_i e; exact fst_halt e
  · exact callDeferred_up _ _ _ _ _ _
  · split
    · exact Nat.le_refl _
    · split
      · exact Nat.le_refl _
      · split
        · exact Nat.le_refl _
        · split
          · split
            · exact Nat.le_refl _
            · split
              · exact run_ok ‹_›
              · exact run_halt ‹_›
              · exact run_halt ‹_›
          · split
            · rw [endPrinting_at]; exact Nat.le_refl _
            · exact Nat.le_refl _
    · split
      · rw [doReturn_up]; exact Nat.le_refl _
      · simp only [after_at]
        split
        · rename_i e; rw [doReturn_up]; exact fst_ok e
        · rename_i e; exact fst_halt e
        · rename_i e; exact fst_halt e
theorem apply_up (p : Program) (fr : Frame) (cs : List Frame) (d : Option Dying) (s : Sem Next) (w : World) (b : Bool) : w.drawn ≤ (stepG.apply p b fr cs d s w).at.drawn := by
  unfold stepG.apply
  simp only [after_at]
  have h : w.drawn ≤ (if b = true then s.runT p w #[] else (s.run p w, #[])).1.at.drawn := by
    split
    · exact runT_up p s w #[]
    · exact run_up p s w
  generalize (if b = true then s.runT p w #[] else (s.run p w, #[])).1 = r at h ⊢
  cases r with
  | ok n w' =>
    have h' : w.drawn ≤ w'.drawn := h
    cases n with
    | callThen d r sv wr => simp only; split <;> exact h'
    | row r a => simp only; split <;> exact h'
    | stack r a => simp only; split <;> exact h'
    | recover => simp only; split <;> exact h'
    | spawn d => exact ite_up h' h'
    | _ => exact h'
  | halt n w' =>
    have h' : w.drawn ≤ w'.drawn := h
    cases n with
    | fatal m => exact Nat.le_trans h' (endFatal_up _ _ _ _ _ _)
    | unsupported u =>
      cases u with
      | initOrder g => exact Nat.le_trans h' (early_up _ _ _ _ _ _)
      | _ => exact h'
    | _ => exact h'

theorem oper_up (p : Program) (fr : Frame) (cs : List Frame) (d : Option Dying) (w : World) (b : Bool) : w.drawn ≤ (stepG.oper p b fr cs d w).at.drawn := by
  unfold stepG.oper
  split
  · exact Nat.le_refl _
  · split <;> exact apply_up _ _ _ _ _ _ _


theorem exec_up (p : Program) (main : Bool) (fr : Frame) (cs : List Frame) (d : Option Dying) (w : World) (b : Bool) : w.drawn ≤ (stepG.exec p main b fr cs d w).at.drawn := by
  unfold stepG.exec
  simp only
  split
  all_goals first
    | exact Nat.le_refl _
    | exact apply_up _ _ _ _ _ _ _
    | (split
       · exact ite_up (Nat.le_refl _) (Nat.le_refl _)
       · (rw [after_at]; split <;> (rename_i e; first | (rw [doReturn_up]; exact fst_ok e) | exact fst_halt e)))
    | (split <;> exact Nat.le_refl _)
    | (rename_i x _ _
       generalize exitTo x _ = o
       cases o
       · show w.drawn ≤ (match fr.roundOf with | none => _ | some l => _ : GStep).at.drawn
         split
         · exact ite_up (Nat.le_refl _) (Nat.le_refl _)
         · (rw [after_at]; split <;> (rename_i e; first | (rw [doReturn_up]; exact fst_ok e) | exact fst_halt e))
       · exact Nat.le_refl _)
    | (rename_i x _ _
       generalize gotoIn x _ = o
       cases o
       · show w.drawn ≤ (match fr.roundOf with | none => _ | some l => _ : GStep).at.drawn
         split
         · exact ite_up (Nat.le_refl _) (Nat.le_refl _)
         · (rw [after_at]; split <;> (rename_i e; first | (rw [doReturn_up]; exact fst_ok e) | exact fst_halt e))
       · exact Nat.le_refl _)
    | (rw [after_at]
       split
       · rename_i e; exact Nat.le_trans (fst_ok e) (apply_up _ _ _ _ _ _ _)
       · rename_i e; exact fst_halt e)
    | (rw [after_at]
       split
       · rename_i e; exact fst_ok e
       · rename_i e; exact fst_halt e
       · rename_i e; exact fst_halt e)
    | (rename_i row _ _ _
       generalize Extern.next row = o
       cases o
       · exact Nat.le_refl _
       · exact apply_up _ _ _ _ _ _ _)
    | (split
       · exact Nat.le_refl _
       · split
         · exact run_ok ‹_›
         · exact run_halt ‹_›)
    | (split
       · exact oper_up _ _ _ _ _ _
       · exact Nat.le_refl _)

theorem stepG_up (p : Program) (main : Bool) (g : Goroutine) (w : World) (b : Bool) : w.drawn ≤ (stepG p main g w b).at.drawn := by
  unfold stepG
  simp only
  split
  · exact die_up _ _ _ _
  · exact exec_up _ _ _ _ _ _ _
  · exact unwind_up _ _ _ _ _ _
def _root_.Go.Stepped.at : Stepped → World
  | .next m => m.world
  | .ended _ w => w

theorem waitingAt_up {rest : Rest} {cs : Array CommCase} {w w' : World} (h : waitingAt rest cs w = some w') : w'.drawn = w.drawn := by
  unfold waitingAt at h
  split at h
  · split at h
    · cases h; rfl
    · cases h
  · cases h; rfl

theorem communicate_up (p : Program) (rest : Rest) (gs : Array Goroutine) (i : Nat) (g : Goroutine) (cases : Array CommCase) (blocking : Bool) (shape : CommShape) (w : World) :
    w.drawn ≤ (communicate p rest gs i g cases blocking shape w).1.at.drawn := by
  unfold communicate
  simp only
  split
  · exact Nat.le_refl _
  · split
    · split
      · split
        · rename_i h; exact Nat.le_of_eq (waitingAt_up h).symm
        · exact Nat.le_refl _
      · exact Nat.le_refl _
    · split
      · rename_i e; exact run_halt e
      · rename_i e
        have h := run_ok e
        clear e
        split
        · split
          · rename_i e; exact Nat.le_trans h (run_halt e)
          · exact h
        · exact h
        · exact h
        · split
          · exact h
          · split
            · rename_i e; have h2 := run_ok e; exact Nat.le_trans h h2
            · rename_i e; exact Nat.le_trans h (run_halt e)
        · exact h
        · exact h
        · exact h

theorem look_up (p : Program) (gs : Array Goroutine) (rest : Rest) (w : World) : w.drawn ≤ (look p gs rest w).at.drawn := by
  unfold look
  simp only
  split
  · split
    · exact Nat.le_refl _
    · split
      · exact Nat.le_refl _
      · split
        · rename_i e; have h2 := run_ok e; exact h2
        · rename_i e; have h2 := run_halt e; exact h2
        · rename_i e; have h2 := run_halt e; exact h2
  · exact Nat.le_refl _

theorem serve_up (p : Program) (m : Machine) (k : Nat) : m.world.drawn ≤ (serve p m k).at.drawn := by
  unfold serve
  split
  · exact Nat.le_refl _
  · exact Nat.le_refl _
  · simp only
    split <;> exact Nat.le_refl _

theorem drain_up (w : World) (c : Nat) : (drain w c).2.drawn = w.drawn := by
  unfold drain; split <;> rfl
theorem retime_up (m : Machine) (k : Nat) (t : Timer) (a b : Nat) : (retime m k t a b).2.world.drawn = m.world.drawn := by
  unfold retime
  simp only
  split
  · exact drain_up _ _
  · rfl
theorem timerOp_up {m m' : Machine} {op : TimerOp} {v : Value} (h : timerOp m op = .ok (v, m')) : m'.world.drawn = m.world.drawn := by
  unfold timerOp at h
  split at h
  · split at h
    · cases h; rfl
    · split at h
      · split at h
        · cases h
        · cases h; rfl
      · cases h
  · unfold timerOp.named at h
    split at h
    · injection h with h
      have := congrArg (fun x => x.2.world.drawn) h
      exact this.symm.trans (retime_up _ _ _ _ _)
    · cases h
  · split at h
    · rename_i m1 ho
      have e1 : m1.world.drawn = m.world.drawn := by
        unfold timerOp.opened at ho
        split at ho
        · split at ho
          · cases ho; rfl
          · cases ho
        · cases ho; rfl
      unfold timerOp.named at h
      split at h
      · injection h with h
        have := congrArg (fun x => x.2.world.drawn) h
        exact (this.symm.trans (retime_up _ _ _ _ _)).trans e1
      · cases h
    · cases h
  · simp only at h
    cases h; rfl

theorem runT_step (p : Program) (m : Machine) (i : Nat) (b : Bool) : m.world.drawn ≤ (runT p m i b).1.at.drawn := by
  unfold runT
  simp only
  have h := stepG_up p (i == 0) (m.gs.swapAt! i { (default : Goroutine) with status := .finished }).1 m.world b
  generalize stepG p (i == 0) (m.gs.swapAt! i { (default : Goroutine) with status := .finished }).1 m.world b = s at h ⊢
  cases s with
  | ended o w es => exact h
  | comm g cases blocking shape w es => exact Nat.le_trans h (communicate_up _ _ _ _ _ _ _ _ _)
  | go g w es => exact h
  | spawn g c w es => exact h
  | count g w es =>
    have h' : m.world.drawn ≤ w.drawn := h
    simp only
    split <;> exact h'
  | alone g on w es => exact h
  | collect g w es => exact Nat.le_trans h (look_up _ _ _ _)
  | watch g w es => exact h
  | newcoro g c d w es => exact h
  | coroswitch g c exit w es =>
    have h' : m.world.drawn ≤ w.drawn := h
    simp only
    split
    · exact h'
    · exact h'
    · exact h'
  | timer g op w es =>
    have h' : m.world.drawn ≤ w.drawn := h
    simp only
    split
    · rename_i e; exact Nat.le_trans h' (Nat.le_of_eq (timerOp_up e).symm)
    · exact h'
    · exact h'
    · exact h'

/-- Where a move is told to go on, no fewer draws than n have been made. -/
def _root_.Go.Move.low (n : Nat) : Move → Prop
  | .goroutine m _ => n ≤ m.world.drawn
  | .machine (.next m) _ => n ≤ m.world.drawn
  | .machine (.ended _ _) _ => True
theorem low_of {n : Nat} {s : Stepped} {ops : Array MemOp} (h : n ≤ s.at.drawn) : (Move.machine s ops).low n := by cases s <;> first | exact h | trivial

theorem askOn_low (p : Program) (m : Machine) {n : Nat} (hn : n ≤ m.world.drawn) : (askOn p m).low n := by
  unfold askOn
  simp only
  split
  · trivial
  · rename_i k world e
    have h := Nat.le_trans hn (run_ok e)
    split
    · exact low_of (Nat.le_trans h (serve_up p { m with world := world } _))
    · split
      · split
        · exact h
        · split
          · exact h
          · split <;> trivial
      · split
        · (have hx := h; split <;> first | trivial | (rename_i e; have h0 := run_ok e; have h3 := Nat.le_trans hx h0; split <;> first | exact h3 | (split <;> first | trivial | (rename_i e; have h4 := run_ok e; exact Nat.le_trans h3 h4))))
        · split
          · trivial
          · rename_i e; have h2 := run_ok e; (have hx := Nat.le_trans h h2; split <;> first | trivial | (rename_i e; have h0 := run_ok e; have h3 := Nat.le_trans hx h0; split <;> first | exact h3 | (split <;> first | trivial | (rename_i e; have h4 := run_ok e; exact Nat.le_trans h3 h4))))
          · rename_i e; have h2 := run_ok e; exact Nat.le_trans h h2
          · rename_i e; have h2 := run_ok e; (have hx := Nat.le_trans h h2; split <;> first | trivial | (rename_i e; have h0 := run_ok e; have h3 := Nat.le_trans hx h0; split <;> first | exact h3 | (split <;> first | trivial | (rename_i e; have h4 := run_ok e; exact Nat.le_trans h3 h4))))

theorem ask_low (p : Program) (m : Machine) {n : Nat} (hn : n ≤ m.world.drawn) : (ask p m).low n := by
  unfold ask
  split
  · split
    · trivial
    · rename_i e
      have h := Nat.le_trans hn (run_ok e)
      have h2 := look_up p m.gs m.rest _ |> Nat.le_trans h
      split
      · rename_i e; rw [e] at h2; exact askOn_low p _ h2
      · exact low_of h2
    · rename_i e
      have h := Nat.le_trans hn (run_ok e)
      exact askOn_low p _ h
  · exact askOn_low p m hn

theorem move_low (p : Program) (m : Machine) : (move p m).low m.world.drawn := by
  unfold move
  split
  · split
    · exact Nat.le_refl _
    · trivial
  · split
    · split
      · exact Nat.le_refl _
      · exact ask_low p _ (Nat.le_refl _)
    · exact ask_low p _ (Nat.le_refl _)

theorem step_up {p : Program} {m m' : Machine} (h : step p m = .next m') : m.world.drawn ≤ m'.world.drawn := by
  unfold step stepT at h
  have hl := move_low p m
  generalize move p m = mv at h hl
  cases mv with
  | goroutine a i =>
    have hr := runT_step p a i true
    simp only at h
    rw [h] at hr
    exact Nat.le_trans hl hr
  | machine s ops =>
    simp only at h
    subst h
    exact hl

theorem runN_up {p : Program} : ∀ (n : Nat) {m m' : Machine}, runN p n m = .next m' → m.world.drawn ≤ m'.world.drawn
  | 0, m, m', h => by cases h; exact Nat.le_refl _
  | n + 1, m, m', h => by
    unfold runN at h
    split at h
    · rename_i e; exact Nat.le_trans (step_up e) (runN_up n h)
    · rename_i hne
      exact absurd h (hne _)

theorem steps_up {p : Program} {m m' : Machine} (h : Steps p m m') : m.world.drawn ≤ m'.world.drawn := by
  obtain ⟨n, hn⟩ := h
  exact runN_up n hn

/-- What a call draws it draws behind what was drawn. -/
theorem calls_up {p : Program} {f : FuncId} {args : Array Value} {w : World} {R : Ending → World → Prop} (h : Calls p f args w R) :
    Calls p f args w fun e w' => R e w' ∧ (e = .outgrown ∨ w.drawn ≤ w'.drawn) := fun cs => by
  obtain ⟨e, w', fr, hR, hc, hf, hl⟩ := h cs
  refine ⟨e, w', fr, ⟨hR, ?_⟩, hc, hf, hl⟩
  cases e with
  | returned v => exact .inr (steps_up hc)
  | panicked ch => exact .inr (steps_up hc)
  | outgrown => exact .inl rfl
end Go.Proofs.Ytbkgipggblphlaa
