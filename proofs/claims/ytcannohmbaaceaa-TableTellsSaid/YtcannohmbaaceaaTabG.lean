/- Merge and Diff. Conditions: the slots lie in memory. -/
import Derived.Test.YtcannohmbaaceaaTabF
namespace Go.Proofs.Ytcannohmbaaceaa
open Go Go.RowKit
attribute [local go_sem] Oper.semAt_some Grows wide_fn

theorem RowT.lower {W : World} {base low : Nat} {v : Value} {l : List Sl} (h : RowT W base v l) (hl : low ≤ base) : RowT W low v l := by
  refine ⟨h.1, ?_⟩
  rcases h.2 with h' | ⟨g, cap, cur, e1, e2, e3, e4⟩
  · exact .inl h'
  · exact .inr ⟨g, cap, cur, e1, Nat.le_trans hl e2, e3, e4⟩
/-- What Merge and Diff come to. -/
def DoneP (W : World) (ok : Bool) (out : List Sl) (e : Ending) (W' : World) : Prop :=
  ((ok = true ∧ out.length ≤ 1000 ∧ ∃ sv, e = .returned (.tuple #[sv, .int .i64 0]) ∧ RowT W' W.heap.size sv out) ∨ (ok = true ∧ ¬ out.length ≤ 1000 ∧ e = .returned (.tuple #[.slice none 0 0, .int .i64 2])) ∨ (ok = false ∧ e = .returned (.tuple #[.slice none 0 0, .int .i64 1]))) ∧ Below W.heap.size W W'

set_option maxRecDepth 100000 in
set_option maxHeartbeats 2000000 in
theorem merge_any (W : World) (sa sb : Value) (la lb : List Sl) (ha : SlotsAt W sa la) (hb : SlotsAt W sb lb) :
    Calls Try.prog 18 #[sa, sb] W (DoneP W (rightB' la && patchB lb) (mergeL la lb)) := by
  have HA := Lib.hid ha
  have HB := Lib.hid hb
  have H1 := Lib.hid (right_slots W sa la ha)
  have HRA := Lib.hid (fun (h : rightB' la = true) => ((rightB_iff' la).1 h).1)
  have HRB := Lib.hid (fun (h : patchB lb = true) => ((patchB_iff lb).1 h).1)
  clear ha hb
  generalize hra : rightB' la = ra at *
  generalize hrb : patchB lb = rb at *
  have HEB := Lib.hid hrb
  clear hra hrb
  go_enter Try.func18, Try.ntmps18
  go_wp2_with fail
  refine H1.out.mono ?_
  rintro _ W1 ⟨rfl, q1⟩
  have Q1 := Lib.hid q1
  clear q1 H1
  cases ra
  · clear HRA HRB
    go_wp2_with fail
    go_ret2
    exact ⟨.inr (.inr ⟨by simp, rfl⟩), Q1.out⟩
  · go_wp2_with fail
    refine (patch_any W1 sb lb (HB.out.later Q1.out)).mono ?_
    rintro _ W2 ⟨rfl, q2⟩
    rw [HEB.out]
    have Q2 := Lib.hid (Q1.out.trans (q2.mono Q1.out.size))
    clear q2 Q1 HEB
    cases rb
    · clear HRA HRB
      go_wp2_with fail
      go_ret2
      exact ⟨.inr (.inr ⟨by simp, rfl⟩), Q2.out⟩
    · have h1 := HRA.out trivial
      have h2 := HRB.out rfl
      have HL := Lib.hid (listed_any W2 sa sb la lb (HA.out.later Q2.out) (HB.out.later Q2.out) 29 behindF behind_ok (enters_of Try.func29 (by kernel_rfl) rfl) h1 h2)
      clear h1 h2 HRA HRB HA HB
      go_wp2_with fail
      refine HL.out.mono ?_
      rintro _ W3 ⟨hc, q3⟩
      have Q3 := Lib.hid (Q2.out.trans (q3.mono Q2.out.size))
      rcases hc with ⟨h4, sv, rfl, h5⟩ | ⟨h4, rfl⟩
      · have K := Lib.hid (And.intro h4 (h5.lower Q2.out.size))
        clear h4 h5 q3 HL
        go_wp2_with fail
        go_ret2
        exact ⟨.inl ⟨rfl, K.out.1, sv, rfl, K.out.2⟩, Q3.out⟩
      · have K := Lib.hid h4
        clear h4 q3 HL
        go_wp2_with fail
        go_ret2
        exact ⟨.inr (.inl ⟨rfl, K.out, rfl⟩), Q3.out⟩

set_option maxRecDepth 100000 in
set_option maxHeartbeats 2000000 in
theorem diff_any (W : World) (sa sb : Value) (la lb : List Sl) (ha : SlotsAt W sa la) (hb : SlotsAt W sb lb) :
    Calls Try.prog 20 #[sa, sb] W (DoneP W (rightB' la && rightB' lb) (diffL la lb)) := by
  have HA := Lib.hid ha
  have HB := Lib.hid hb
  have H1 := Lib.hid (right_slots W sa la ha)
  have HRA := Lib.hid (fun (h : rightB' la = true) => ((rightB_iff' la).1 h).1)
  have HRB := Lib.hid (fun (h : rightB' lb = true) => ((rightB_iff' lb).1 h).1)
  clear ha hb
  generalize hra : rightB' la = ra at *
  generalize hrb : rightB' lb = rb at *
  have HEB := Lib.hid hrb
  clear hra hrb
  go_enter Try.func20, Try.ntmps20
  go_wp2_with fail
  refine H1.out.mono ?_
  rintro _ W1 ⟨rfl, q1⟩
  have Q1 := Lib.hid q1
  clear q1 H1
  cases ra
  · clear HRA HRB
    go_wp2_with fail
    go_ret2
    exact ⟨.inr (.inr ⟨by simp, rfl⟩), Q1.out⟩
  · go_wp2_with fail
    refine (right_slots W1 sb lb (HB.out.later Q1.out)).mono ?_
    rintro _ W2 ⟨rfl, q2⟩
    rw [HEB.out]
    have Q2 := Lib.hid (Q1.out.trans (q2.mono Q1.out.size))
    clear q2 Q1 HEB
    cases rb
    · clear HRA HRB
      go_wp2_with fail
      go_ret2
      exact ⟨.inr (.inr ⟨by simp, rfl⟩), Q2.out⟩
    · have h1 := HRA.out trivial
      have h2 := HRB.out rfl
      have HL := Lib.hid (listed_any W2 sa sb la lb (HA.out.later Q2.out) (HB.out.later Q2.out) 31 unlikeF unlike_ok (enters_of Try.func31 (by kernel_rfl) rfl) h1 h2)
      clear h1 h2 HRA HRB HA HB
      go_wp2_with fail
      refine HL.out.mono ?_
      rintro _ W3 ⟨hc, q3⟩
      have Q3 := Lib.hid (Q2.out.trans (q3.mono Q2.out.size))
      rcases hc with ⟨h4, sv, rfl, h5⟩ | ⟨h4, rfl⟩
      · have K := Lib.hid (And.intro h4 (h5.lower Q2.out.size))
        clear h4 h5 q3 HL
        go_wp2_with fail
        go_ret2
        exact ⟨.inl ⟨rfl, K.out.1, sv, rfl, K.out.2⟩, Q3.out⟩
      · have K := Lib.hid h4
        clear h4 q3 HL
        go_wp2_with fail
        go_ret2
        exact ⟨.inr (.inl ⟨rfl, K.out, rfl⟩), Q3.out⟩
end Go.Proofs.Ytcannohmbaaceaa
