/- Three keys and their orders. Conditions: none. -/
import Derived.Test.YtbkgipggblphlaaAcD
namespace Go.Proofs.Ytbkgipggblphlaa
open Go Go.RowKit
attribute [local go_sem] Oper.semAt_some Grows wide_fn

theorem built_at0 (x0 x1 x2 x3 x4 x5 x6 x7 x8 x9 x10 x11 x12 x13 x14 x15 x16 x17 x18 x19 : Value) : Try.prog.built 31 [(0, .agg #[x0, x1, x2, x3, x4, x5, x6, x7, x8, x9, x10, x11, x12, x13, x14, x15, x16, x17, x18, x19])] = some #[x0, x1, x2, x3, x4, x5, x6, x7, x8, x9, x10, x11, x12, x13, x14, x15, x16, x17, x18, x19, .bool false, .int .u64 0, .int .u64 0, .int .u64 0, .int .u64 0] := by kernel_rfl
theorem built_at (n : Nat) : Try.prog.built 31 [(0, .agg (adC n))] = some (kyC ⟨n, false, 0⟩) := by
  have h := built_at0 (.int .u8 ((adB n 0 : Nat) : Int)) (.int .u8 ((adB n 1 : Nat) : Int)) (.int .u8 ((adB n 2 : Nat) : Int)) (.int .u8 ((adB n 3 : Nat) : Int)) (.int .u8 ((adB n 4 : Nat) : Int)) (.int .u8 ((adB n 5 : Nat) : Int)) (.int .u8 ((adB n 6 : Nat) : Int)) (.int .u8 ((adB n 7 : Nat) : Int)) (.int .u8 ((adB n 8 : Nat) : Int)) (.int .u8 ((adB n 9 : Nat) : Int)) (.int .u8 ((adB n 10 : Nat) : Int)) (.int .u8 ((adB n 11 : Nat) : Int)) (.int .u8 ((adB n 12 : Nat) : Int)) (.int .u8 ((adB n 13 : Nat) : Int)) (.int .u8 ((adB n 14 : Nat) : Int)) (.int .u8 ((adB n 15 : Nat) : Int)) (.int .u8 ((adB n 16 : Nat) : Int)) (.int .u8 ((adB n 17 : Nat) : Int)) (.int .u8 ((adB n 18 : Nat) : Int)) (.int .u8 ((adB n 19 : Nat) : Int))
  have e1 : adC n = #[.int .u8 ((adB n 0 : Nat) : Int), .int .u8 ((adB n 1 : Nat) : Int), .int .u8 ((adB n 2 : Nat) : Int), .int .u8 ((adB n 3 : Nat) : Int), .int .u8 ((adB n 4 : Nat) : Int), .int .u8 ((adB n 5 : Nat) : Int), .int .u8 ((adB n 6 : Nat) : Int), .int .u8 ((adB n 7 : Nat) : Int), .int .u8 ((adB n 8 : Nat) : Int), .int .u8 ((adB n 9 : Nat) : Int), .int .u8 ((adB n 10 : Nat) : Int), .int .u8 ((adB n 11 : Nat) : Int), .int .u8 ((adB n 12 : Nat) : Int), .int .u8 ((adB n 13 : Nat) : Int), .int .u8 ((adB n 14 : Nat) : Int), .int .u8 ((adB n 15 : Nat) : Int), .int .u8 ((adB n 16 : Nat) : Int), .int .u8 ((adB n 17 : Nat) : Int), .int .u8 ((adB n 18 : Nat) : Int), .int .u8 ((adB n 19 : Nat) : Int)] := rfl
  have e2 : kyC ⟨n, false, 0⟩ = #[.int .u8 ((adB n 0 : Nat) : Int), .int .u8 ((adB n 1 : Nat) : Int), .int .u8 ((adB n 2 : Nat) : Int), .int .u8 ((adB n 3 : Nat) : Int), .int .u8 ((adB n 4 : Nat) : Int), .int .u8 ((adB n 5 : Nat) : Int), .int .u8 ((adB n 6 : Nat) : Int), .int .u8 ((adB n 7 : Nat) : Int), .int .u8 ((adB n 8 : Nat) : Int), .int .u8 ((adB n 9 : Nat) : Int), .int .u8 ((adB n 10 : Nat) : Int), .int .u8 ((adB n 11 : Nat) : Int), .int .u8 ((adB n 12 : Nat) : Int), .int .u8 ((adB n 13 : Nat) : Int), .int .u8 ((adB n 14 : Nat) : Int), .int .u8 ((adB n 15 : Nat) : Int), .int .u8 ((adB n 16 : Nat) : Int), .int .u8 ((adB n 17 : Nat) : Int), .int .u8 ((adB n 18 : Nat) : Int), .int .u8 ((adB n 19 : Nat) : Int), .bool false, .int .u64 0, .int .u64 0, .int .u64 0, .int .u64 0] := by kernel_rfl
  rw [e1, e2]
  exact h
theorem wpList_build_at {ops : Array Oper} {rest : List Oper} {o : Oper} {a : Act} {w : World} {Q : Exit → Act → World → Prop} (hw : Region.wanted o (yielded ops a.tmps) = true) (y : Operand) (ho : o.op = .build 31 #[(0, y)]) (ad cs : Array Value) (hb : Try.prog.built 31 [(0, .agg ad)] = some cs) (hy : a.eval y = .agg ad)
    (h : wpList Try.prog ops Q rest (a.put o.dst (.agg cs)) w) : wpList Try.prog ops Q (o :: rest) a w := by
  refine wpList_step fun K hK => ?_
  rw [if_pos hw]
  have e : Try.prog.built 31 (#[((0 : Nat), y)].map fun (i, x) => (i, a.eval x)).toList = some cs := by
    simp only [List.map_toArray, List.map_cons, List.map_nil, hy]
    exact hb
  refine wp_build 31 #[(0, y)] ho (by rw [e]; rfl) (hK _ _ ?_)
  rw [e]
  exact h
theorem kcmp_flip (a b : Ky) : kcmp b a = -kcmp a b := by
  rcases kcmp_tri a b with ⟨h, e⟩ | ⟨h, e⟩ | ⟨h, e⟩
  · rcases kcmp_tri b a with ⟨h', e'⟩ | ⟨h', e'⟩ | ⟨h', e'⟩
    · exact absurd (Kl.trans h h') (Kl.irrefl a)
    · subst h'; exact absurd h (Kl.irrefl _)
    · omega
  · subst h; omega
  · rcases kcmp_tri b a with ⟨h', e'⟩ | ⟨h', e'⟩ | ⟨h', e'⟩
    · omega
    · subst h'; exact absurd h (Kl.irrefl _)
    · exact absurd (Kl.trans h h') (Kl.irrefl b)
theorem kcmp_whole (a : Ky) : kcmp ⟨a.at_, false, 0⟩ a = -1 ∨ kcmp ⟨a.at_, false, 0⟩ a = 0 := by
  rcases kcmp_tri ⟨a.at_, false, 0⟩ a with ⟨_, e⟩ | ⟨_, e⟩ | ⟨h, e⟩
  · exact .inl e
  · exact .inr e
  · exfalso
    unfold kcmp at e
    rw [(acmp_zero _ _).2 rfl, if_pos rfl] at e
    simp only at e
    split at e
    · unfold wcmp at e; repeat' split at e
      all_goals omega
    · rw [if_neg (by decide)] at e; omega
/-- How three keys may lie to each other. -/
theorem kcmp_three (a b c : Ky) : (kcmp a b, kcmp b c, kcmp a c) ∈ [((-1 : Int), (-1 : Int), (-1 : Int)), (-1, 0, -1), (-1, 1, -1), (-1, 1, 0), (-1, 1, 1), (0, -1, -1), (0, 0, 0), (0, 1, 1), (1, -1, -1), (1, -1, 0), (1, -1, 1), (1, 0, 1), (1, 1, 1)] := by
  rcases kcmp_tri a b with ⟨h, e⟩ | ⟨h, e⟩ | ⟨h, e⟩ <;> rcases kcmp_tri b c with ⟨h', e'⟩ | ⟨h', e'⟩ | ⟨h', e'⟩ <;> rcases kcmp_tri a c with ⟨h'', e''⟩ | ⟨h'', e''⟩ | ⟨h'', e''⟩
  all_goals rw [e, e', e'']
  all_goals first | decide | (exfalso; first | (subst h; subst h'; exact Kl.irrefl _ h'') | (subst h; subst h''; exact Kl.irrefl _ h') | (subst h'; subst h''; exact Kl.irrefl _ h) | (subst h; exact Kl.irrefl _ (Kl.trans h' h'')) | (subst h'; exact Kl.irrefl _ (Kl.trans h h'')) | (subst h''; exact Kl.irrefl _ (Kl.trans h h')) | exact Kl.irrefl _ (Kl.trans (Kl.trans h h') h'') | exact Kl.irrefl _ (Kl.trans (Kl.trans h' h) h''))
theorem kcmp_eq (a b : Ky) : decide (a = b) = (kcmp a b == 0) := by
  by_cases h : a = b
  · rw [decide_eq_true h, kcmp_zero.2 h]; rfl
  · rw [decide_eq_false h]
    exact (beq_eq_false_iff_ne.2 fun e => h (kcmp_zero.1 e)).symm
end Go.Proofs.Ytbkgipggblphlaa
