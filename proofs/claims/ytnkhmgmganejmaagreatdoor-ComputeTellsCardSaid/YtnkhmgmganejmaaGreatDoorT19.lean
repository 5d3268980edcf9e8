/- Part. -/
import Derived.Test.YtnkhmgmganejmaaGreatDoorT05
import Derived.Laws.Slices
import Derived.Laws.Strings2
import Derived.Test.YtnkhmgmganejmaaGreatDoorT07
set_option maxRecDepth 100000
set_option maxHeartbeats 16000000
namespace Go.Proofs.YtnkhmgmganejmaaGreatDoor
section
open Go Go.RowKit Go.Maps
def NewB (w : World) (f : Nat → Option Inf) (e : Ending) (w' : World) : Prop := ∃ B n, e = .returned (.map (some B)) ∧ n ≤ 40 ∧ MapB w' B n f ∧ w.heap.size ≤ B ∧ Below w.heap.size w w'
theorem build4 (s : ByteArray) (a b c : Int) (w : World) : (Instr.build tI #[(0, .string s), (1, .int .i64 a), (2, .int .i64 b), (3, .int .i64 c)]).run Tryz.prog w = .ok (.agg #[.string s, .int .i64 a, .int .i64 b, .int .i64 c]) w := by kernel_rfl
theorem reckoning_any (w : World) : Calls Tryz.prog 90 #[] w (NewB w (findI (opRow 0))) := by
 have hmm := @run_makeMap Tryz.prog
 have hb4 := build4
 unfold tI at hb4
 obtain ⟨B, hB⟩ : ∃ B, w.heap.size = B := ⟨_, rfl⟩
 have h0 : MapB (w.alloc (.map #[] 0)) B 0 (fun _ => none) := hB ▸ MapB.made w
 have hg0 : Below B w (w.alloc (.map #[] 0)) := (Below.refl _ w).alloc (by omega) _
 have s0 : B ≤ (w.alloc (.map #[] 0)).heap.size := by simp; omega
 go_enter Tryz.func90, Tryz.ntmps90
 go_wp2_with (first | (refine wpList_putMB _ rfl _ _ _ (.inr rfl) _ _ _ rfl h0 (by omega) 0 ([83, 84, 79, 80], 0, 0, 0) rfl (by decide) rfl ?_; intro w1 h1 g1; have s1 := Nat.le_trans s0 g1.size) | (refine wpList_putMB _ rfl _ _ _ (.inr rfl) _ _ _ rfl h1 (by omega) 1 ([65, 68, 68], 2, 1, 3) rfl (by decide) rfl ?_; intro w2 h2 g2; have s2 := Nat.le_trans s1 g2.size) | (refine wpList_putMB _ rfl _ _ _ (.inr rfl) _ _ _ rfl h2 (by omega) 2 ([77, 85, 76], 2, 1, 5) rfl (by decide) rfl ?_; intro w3 h3 g3; have s3 := Nat.le_trans s2 g3.size) | (refine wpList_putMB _ rfl _ _ _ (.inr rfl) _ _ _ rfl h3 (by omega) 3 ([83, 85, 66], 2, 1, 3) rfl (by decide) rfl ?_; intro w4 h4 g4; have s4 := Nat.le_trans s3 g4.size) | (refine wpList_putMB _ rfl _ _ _ (.inr rfl) _ _ _ rfl h4 (by omega) 4 ([68, 73, 86], 2, 1, 5) rfl (by decide) rfl ?_; intro w5 h5 g5; have s5 := Nat.le_trans s4 g5.size) | (refine wpList_putMB _ rfl _ _ _ (.inr rfl) _ _ _ rfl h5 (by omega) 5 ([83, 68, 73, 86], 2, 1, 5) rfl (by decide) rfl ?_; intro w6 h6 g6; have s6 := Nat.le_trans s5 g6.size) | (refine wpList_putMB _ rfl _ _ _ (.inr rfl) _ _ _ rfl h6 (by omega) 6 ([77, 79, 68], 2, 1, 5) rfl (by decide) rfl ?_; intro w7 h7 g7; have s7 := Nat.le_trans s6 g7.size) | (refine wpList_putMB _ rfl _ _ _ (.inr rfl) _ _ _ rfl h7 (by omega) 7 ([83, 77, 79, 68], 2, 1, 5) rfl (by decide) rfl ?_; intro w8 h8 g8; have s8 := Nat.le_trans s7 g8.size) | (refine wpList_putMB _ rfl _ _ _ (.inr rfl) _ _ _ rfl h8 (by omega) 8 ([65, 68, 68, 77, 79, 68], 3, 1, 8) rfl (by decide) rfl ?_; intro w9 h9 g9; have s9 := Nat.le_trans s8 g9.size) | (refine wpList_putMB _ rfl _ _ _ (.inr rfl) _ _ _ rfl h9 (by omega) 9 ([77, 85, 76, 77, 79, 68], 3, 1, 8) rfl (by decide) rfl ?_; intro w10 h10 g10; have s10 := Nat.le_trans s9 g10.size) | (refine wpList_putMB _ rfl _ _ _ (.inr rfl) _ _ _ rfl h10 (by omega) 10 ([69, 88, 80], 2, 1, 10) rfl (by decide) rfl ?_; intro w11 h11 g11; have s11 := Nat.le_trans s10 g11.size) | (refine wpList_putMB _ rfl _ _ _ (.inr rfl) _ _ _ rfl h11 (by omega) 11 ([83, 73, 71, 78, 69, 88, 84, 69, 78, 68], 2, 1, 5) rfl (by decide) rfl ?_; intro w12 h12 g12; have s12 := Nat.le_trans s11 g12.size) | go_in)
 go_ret
 refine ⟨B, _, rfl, ?_, MapB.congr (by assumption) ?_, by omega, ?_⟩
 rotate_left
 ·decide +kernel
 ·rw [hB]
  exact ((((((((((((hg0.grown g1 s0 (fun k e => by cases e; exact Nat.le_refl _)).grown g2 s1 (fun k e => by cases e; exact Nat.le_refl _)).grown g3 s2 (fun k e => by cases e; exact Nat.le_refl _)).grown g4 s3 (fun k e => by cases e; exact Nat.le_refl _)).grown g5 s4 (fun k e => by cases e; exact Nat.le_refl _)).grown g6 s5 (fun k e => by cases e; exact Nat.le_refl _)).grown g7 s6 (fun k e => by cases e; exact Nat.le_refl _)).grown g8 s7 (fun k e => by cases e; exact Nat.le_refl _)).grown g9 s8 (fun k e => by cases e; exact Nat.le_refl _)).grown g10 s9 (fun k e => by cases e; exact Nat.le_refl _)).grown g11 s10 (fun k e => by cases e; exact Nat.le_refl _)).grown g12 s11 (fun k e => by cases e; exact Nat.le_refl _))
 ·omega
theorem comparing_any (w : World) : Calls Tryz.prog 91 #[] w (NewB w (findI (opRow 1))) := by
 have hmm := @run_makeMap Tryz.prog
 have hb4 := build4
 unfold tI at hb4
 obtain ⟨B, hB⟩ : ∃ B, w.heap.size = B := ⟨_, rfl⟩
 have h0 : MapB (w.alloc (.map #[] 0)) B 0 (fun _ => none) := hB ▸ MapB.made w
 have hg0 : Below B w (w.alloc (.map #[] 0)) := (Below.refl _ w).alloc (by omega) _
 have s0 : B ≤ (w.alloc (.map #[] 0)).heap.size := by simp; omega
 go_enter Tryz.func91, Tryz.ntmps91
 go_wp2_with (first | (refine wpList_putMB _ rfl _ _ _ (.inr rfl) _ _ _ rfl h0 (by omega) 16 ([76, 84], 2, 1, 3) rfl (by decide) rfl ?_; intro w1 h1 g1; have s1 := Nat.le_trans s0 g1.size) | (refine wpList_putMB _ rfl _ _ _ (.inr rfl) _ _ _ rfl h1 (by omega) 17 ([71, 84], 2, 1, 3) rfl (by decide) rfl ?_; intro w2 h2 g2; have s2 := Nat.le_trans s1 g2.size) | (refine wpList_putMB _ rfl _ _ _ (.inr rfl) _ _ _ rfl h2 (by omega) 18 ([83, 76, 84], 2, 1, 3) rfl (by decide) rfl ?_; intro w3 h3 g3; have s3 := Nat.le_trans s2 g3.size) | (refine wpList_putMB _ rfl _ _ _ (.inr rfl) _ _ _ rfl h3 (by omega) 19 ([83, 71, 84], 2, 1, 3) rfl (by decide) rfl ?_; intro w4 h4 g4; have s4 := Nat.le_trans s3 g4.size) | (refine wpList_putMB _ rfl _ _ _ (.inr rfl) _ _ _ rfl h4 (by omega) 20 ([69, 81], 2, 1, 3) rfl (by decide) rfl ?_; intro w5 h5 g5; have s5 := Nat.le_trans s4 g5.size) | (refine wpList_putMB _ rfl _ _ _ (.inr rfl) _ _ _ rfl h5 (by omega) 21 ([73, 83, 90, 69, 82, 79], 1, 1, 3) rfl (by decide) rfl ?_; intro w6 h6 g6; have s6 := Nat.le_trans s5 g6.size) | (refine wpList_putMB _ rfl _ _ _ (.inr rfl) _ _ _ rfl h6 (by omega) 22 ([65, 78, 68], 2, 1, 3) rfl (by decide) rfl ?_; intro w7 h7 g7; have s7 := Nat.le_trans s6 g7.size) | (refine wpList_putMB _ rfl _ _ _ (.inr rfl) _ _ _ rfl h7 (by omega) 23 ([79, 82], 2, 1, 3) rfl (by decide) rfl ?_; intro w8 h8 g8; have s8 := Nat.le_trans s7 g8.size) | (refine wpList_putMB _ rfl _ _ _ (.inr rfl) _ _ _ rfl h8 (by omega) 24 ([88, 79, 82], 2, 1, 3) rfl (by decide) rfl ?_; intro w9 h9 g9; have s9 := Nat.le_trans s8 g9.size) | (refine wpList_putMB _ rfl _ _ _ (.inr rfl) _ _ _ rfl h9 (by omega) 25 ([78, 79, 84], 1, 1, 3) rfl (by decide) rfl ?_; intro w10 h10 g10; have s10 := Nat.le_trans s9 g10.size) | (refine wpList_putMB _ rfl _ _ _ (.inr rfl) _ _ _ rfl h10 (by omega) 26 ([66, 89, 84, 69], 2, 1, 3) rfl (by decide) rfl ?_; intro w11 h11 g11; have s11 := Nat.le_trans s10 g11.size) | (refine wpList_putMB _ rfl _ _ _ (.inr rfl) _ _ _ rfl h11 (by omega) 27 ([83, 72, 76], 2, 1, 3) rfl (by decide) rfl ?_; intro w12 h12 g12; have s12 := Nat.le_trans s11 g12.size) | (refine wpList_putMB _ rfl _ _ _ (.inr rfl) _ _ _ rfl h12 (by omega) 28 ([83, 72, 82], 2, 1, 3) rfl (by decide) rfl ?_; intro w13 h13 g13; have s13 := Nat.le_trans s12 g13.size) | (refine wpList_putMB _ rfl _ _ _ (.inr rfl) _ _ _ rfl h13 (by omega) 29 ([83, 65, 82], 2, 1, 3) rfl (by decide) rfl ?_; intro w14 h14 g14; have s14 := Nat.le_trans s13 g14.size) | go_in)
 go_ret
 refine ⟨B, _, rfl, ?_, MapB.congr (by assumption) ?_, by omega, ?_⟩
 rotate_left
 ·decide +kernel
 ·rw [hB]
  exact ((((((((((((((hg0.grown g1 s0 (fun k e => by cases e; exact Nat.le_refl _)).grown g2 s1 (fun k e => by cases e; exact Nat.le_refl _)).grown g3 s2 (fun k e => by cases e; exact Nat.le_refl _)).grown g4 s3 (fun k e => by cases e; exact Nat.le_refl _)).grown g5 s4 (fun k e => by cases e; exact Nat.le_refl _)).grown g6 s5 (fun k e => by cases e; exact Nat.le_refl _)).grown g7 s6 (fun k e => by cases e; exact Nat.le_refl _)).grown g8 s7 (fun k e => by cases e; exact Nat.le_refl _)).grown g9 s8 (fun k e => by cases e; exact Nat.le_refl _)).grown g10 s9 (fun k e => by cases e; exact Nat.le_refl _)).grown g11 s10 (fun k e => by cases e; exact Nat.le_refl _)).grown g12 s11 (fun k e => by cases e; exact Nat.le_refl _)).grown g13 s12 (fun k e => by cases e; exact Nat.le_refl _)).grown g14 s13 (fun k e => by cases e; exact Nat.le_refl _))
 ·omega
theorem asking_any (w : World) : Calls Tryz.prog 92 #[] w (NewB w (findI (opRow 3))) := by
 have hmm := @run_makeMap Tryz.prog
 have hb4 := build4
 unfold tI at hb4
 obtain ⟨B, hB⟩ : ∃ B, w.heap.size = B := ⟨_, rfl⟩
 have h0 : MapB (w.alloc (.map #[] 0)) B 0 (fun _ => none) := hB ▸ MapB.made w
 have hg0 : Below B w (w.alloc (.map #[] 0)) := (Below.refl _ w).alloc (by omega) _
 have s0 : B ≤ (w.alloc (.map #[] 0)).heap.size := by simp; omega
 go_enter Tryz.func92, Tryz.ntmps92
 go_wp2_with (first | (refine wpList_putMB _ rfl _ _ _ (.inr rfl) _ _ _ rfl h0 (by omega) 48 ([65, 68, 68, 82, 69, 83, 83], 0, 1, 2) rfl (by decide) rfl ?_; intro w1 h1 g1; have s1 := Nat.le_trans s0 g1.size) | (refine wpList_putMB _ rfl _ _ _ (.inr rfl) _ _ _ rfl h1 (by omega) 49 ([66, 65, 76, 65, 78, 67, 69], 1, 1, 0) rfl (by decide) rfl ?_; intro w2 h2 g2; have s2 := Nat.le_trans s1 g2.size) | (refine wpList_putMB _ rfl _ _ _ (.inr rfl) _ _ _ rfl h2 (by omega) 50 ([79, 82, 73, 71, 73, 78], 0, 1, 2) rfl (by decide) rfl ?_; intro w3 h3 g3; have s3 := Nat.le_trans s2 g3.size) | (refine wpList_putMB _ rfl _ _ _ (.inr rfl) _ _ _ rfl h3 (by omega) 51 ([67, 65, 76, 76, 69, 82], 0, 1, 2) rfl (by decide) rfl ?_; intro w4 h4 g4; have s4 := Nat.le_trans s3 g4.size) | (refine wpList_putMB _ rfl _ _ _ (.inr rfl) _ _ _ rfl h4 (by omega) 52 ([67, 65, 76, 76, 86, 65, 76, 85, 69], 0, 1, 2) rfl (by decide) rfl ?_; intro w5 h5 g5; have s5 := Nat.le_trans s4 g5.size) | (refine wpList_putMB _ rfl _ _ _ (.inr rfl) _ _ _ rfl h5 (by omega) 53 ([67, 65, 76, 76, 68, 65, 84, 65, 76, 79, 65, 68], 1, 1, 3) rfl (by decide) rfl ?_; intro w6 h6 g6; have s6 := Nat.le_trans s5 g6.size) | (refine wpList_putMB _ rfl _ _ _ (.inr rfl) _ _ _ rfl h6 (by omega) 54 ([67, 65, 76, 76, 68, 65, 84, 65, 83, 73, 90, 69], 0, 1, 2) rfl (by decide) rfl ?_; intro w7 h7 g7; have s7 := Nat.le_trans s6 g7.size) | (refine wpList_putMB _ rfl _ _ _ (.inr rfl) _ _ _ rfl h7 (by omega) 55 ([67, 65, 76, 76, 68, 65, 84, 65, 67, 79, 80, 89], 3, 0, 3) rfl (by decide) rfl ?_; intro w8 h8 g8; have s8 := Nat.le_trans s7 g8.size) | (refine wpList_putMB _ rfl _ _ _ (.inr rfl) _ _ _ rfl h8 (by omega) 56 ([67, 79, 68, 69, 83, 73, 90, 69], 0, 1, 2) rfl (by decide) rfl ?_; intro w9 h9 g9; have s9 := Nat.le_trans s8 g9.size) | (refine wpList_putMB _ rfl _ _ _ (.inr rfl) _ _ _ rfl h9 (by omega) 57 ([67, 79, 68, 69, 67, 79, 80, 89], 3, 0, 3) rfl (by decide) rfl ?_; intro w10 h10 g10; have s10 := Nat.le_trans s9 g10.size) | (refine wpList_putMB _ rfl _ _ _ (.inr rfl) _ _ _ rfl h10 (by omega) 58 ([71, 65, 83, 80, 82, 73, 67, 69], 0, 1, 2) rfl (by decide) rfl ?_; intro w11 h11 g11; have s11 := Nat.le_trans s10 g11.size) | (refine wpList_putMB _ rfl _ _ _ (.inr rfl) _ _ _ rfl h11 (by omega) 59 ([69, 88, 84, 67, 79, 68, 69, 83, 73, 90, 69], 1, 1, 0) rfl (by decide) rfl ?_; intro w12 h12 g12; have s12 := Nat.le_trans s11 g12.size) | (refine wpList_putMB _ rfl _ _ _ (.inr rfl) _ _ _ rfl h12 (by omega) 60 ([69, 88, 84, 67, 79, 68, 69, 67, 79, 80, 89], 4, 0, 0) rfl (by decide) rfl ?_; intro w13 h13 g13; have s13 := Nat.le_trans s12 g13.size) | (refine wpList_putMB _ rfl _ _ _ (.inr rfl) _ _ _ rfl h13 (by omega) 61 ([82, 69, 84, 85, 82, 78, 68, 65, 84, 65, 83, 73, 90, 69], 0, 1, 2) rfl (by decide) rfl ?_; intro w14 h14 g14; have s14 := Nat.le_trans s13 g14.size) | (refine wpList_putMB _ rfl _ _ _ (.inr rfl) _ _ _ rfl h14 (by omega) 62 ([82, 69, 84, 85, 82, 78, 68, 65, 84, 65, 67, 79, 80, 89], 3, 0, 3) rfl (by decide) rfl ?_; intro w15 h15 g15; have s15 := Nat.le_trans s14 g15.size) | (refine wpList_putMB _ rfl _ _ _ (.inr rfl) _ _ _ rfl h15 (by omega) 63 ([69, 88, 84, 67, 79, 68, 69, 72, 65, 83, 72], 1, 1, 0) rfl (by decide) rfl ?_; intro w16 h16 g16; have s16 := Nat.le_trans s15 g16.size) | go_in)
 go_ret
 refine ⟨B, _, rfl, ?_, MapB.congr (by assumption) ?_, by omega, ?_⟩
 rotate_left
 ·decide +kernel
 ·rw [hB]
  exact ((((((((((((((((hg0.grown g1 s0 (fun k e => by cases e; exact Nat.le_refl _)).grown g2 s1 (fun k e => by cases e; exact Nat.le_refl _)).grown g3 s2 (fun k e => by cases e; exact Nat.le_refl _)).grown g4 s3 (fun k e => by cases e; exact Nat.le_refl _)).grown g5 s4 (fun k e => by cases e; exact Nat.le_refl _)).grown g6 s5 (fun k e => by cases e; exact Nat.le_refl _)).grown g7 s6 (fun k e => by cases e; exact Nat.le_refl _)).grown g8 s7 (fun k e => by cases e; exact Nat.le_refl _)).grown g9 s8 (fun k e => by cases e; exact Nat.le_refl _)).grown g10 s9 (fun k e => by cases e; exact Nat.le_refl _)).grown g11 s10 (fun k e => by cases e; exact Nat.le_refl _)).grown g12 s11 (fun k e => by cases e; exact Nat.le_refl _)).grown g13 s12 (fun k e => by cases e; exact Nat.le_refl _)).grown g14 s13 (fun k e => by cases e; exact Nat.le_refl _)).grown g15 s14 (fun k e => by cases e; exact Nat.le_refl _)).grown g16 s15 (fun k e => by cases e; exact Nat.le_refl _))
 ·omega
theorem askingTheBlock_any (w : World) : Calls Tryz.prog 93 #[] w (NewB w (findI (opRow 4))) := by
 have hmm := @run_makeMap Tryz.prog
 have hb4 := build4
 unfold tI at hb4
 obtain ⟨B, hB⟩ : ∃ B, w.heap.size = B := ⟨_, rfl⟩
 have h0 : MapB (w.alloc (.map #[] 0)) B 0 (fun _ => none) := hB ▸ MapB.made w
 have hg0 : Below B w (w.alloc (.map #[] 0)) := (Below.refl _ w).alloc (by omega) _
 have s0 : B ≤ (w.alloc (.map #[] 0)).heap.size := by simp; omega
 go_enter Tryz.func93, Tryz.ntmps93
 go_wp2_with (first | (refine wpList_putMB _ rfl _ _ _ (.inr rfl) _ _ _ rfl h0 (by omega) 64 ([66, 76, 79, 67, 75, 72, 65, 83, 72], 1, 1, 20) rfl (by decide) rfl ?_; intro w1 h1 g1; have s1 := Nat.le_trans s0 g1.size) | (refine wpList_putMB _ rfl _ _ _ (.inr rfl) _ _ _ rfl h1 (by omega) 65 ([67, 79, 73, 78, 66, 65, 83, 69], 0, 1, 2) rfl (by decide) rfl ?_; intro w2 h2 g2; have s2 := Nat.le_trans s1 g2.size) | (refine wpList_putMB _ rfl _ _ _ (.inr rfl) _ _ _ rfl h2 (by omega) 66 ([84, 73, 77, 69, 83, 84, 65, 77, 80], 0, 1, 2) rfl (by decide) rfl ?_; intro w3 h3 g3; have s3 := Nat.le_trans s2 g3.size) | (refine wpList_putMB _ rfl _ _ _ (.inr rfl) _ _ _ rfl h3 (by omega) 67 ([78, 85, 77, 66, 69, 82], 0, 1, 2) rfl (by decide) rfl ?_; intro w4 h4 g4; have s4 := Nat.le_trans s3 g4.size) | (refine wpList_putMB _ rfl _ _ _ (.inr rfl) _ _ _ rfl h4 (by omega) 68 ([80, 82, 69, 86, 82, 65, 78, 68, 65, 79], 0, 1, 2) rfl (by decide) rfl ?_; intro w5 h5 g5; have s5 := Nat.le_trans s4 g5.size) | (refine wpList_putMB _ rfl _ _ _ (.inr rfl) _ _ _ rfl h5 (by omega) 69 ([71, 65, 83, 76, 73, 77, 73, 84], 0, 1, 2) rfl (by decide) rfl ?_; intro w6 h6 g6; have s6 := Nat.le_trans s5 g6.size) | (refine wpList_putMB _ rfl _ _ _ (.inr rfl) _ _ _ rfl h6 (by omega) 70 ([67, 72, 65, 73, 78, 73, 68], 0, 1, 2) rfl (by decide) rfl ?_; intro w7 h7 g7; have s7 := Nat.le_trans s6 g7.size) | (refine wpList_putMB _ rfl _ _ _ (.inr rfl) _ _ _ rfl h7 (by omega) 71 ([83, 69, 76, 70, 66, 65, 76, 65, 78, 67, 69], 0, 1, 5) rfl (by decide) rfl ?_; intro w8 h8 g8; have s8 := Nat.le_trans s7 g8.size) | (refine wpList_putMB _ rfl _ _ _ (.inr rfl) _ _ _ rfl h8 (by omega) 72 ([66, 65, 83, 69, 70, 69, 69], 0, 1, 2) rfl (by decide) rfl ?_; intro w9 h9 g9; have s9 := Nat.le_trans s8 g9.size) | go_in)
 go_ret
 refine ⟨B, _, rfl, ?_, MapB.congr (by assumption) ?_, by omega, ?_⟩
 rotate_left
 ·decide +kernel
 ·rw [hB]
  exact (((((((((hg0.grown g1 s0 (fun k e => by cases e; exact Nat.le_refl _)).grown g2 s1 (fun k e => by cases e; exact Nat.le_refl _)).grown g3 s2 (fun k e => by cases e; exact Nat.le_refl _)).grown g4 s3 (fun k e => by cases e; exact Nat.le_refl _)).grown g5 s4 (fun k e => by cases e; exact Nat.le_refl _)).grown g6 s5 (fun k e => by cases e; exact Nat.le_refl _)).grown g7 s6 (fun k e => by cases e; exact Nat.le_refl _)).grown g8 s7 (fun k e => by cases e; exact Nat.le_refl _)).grown g9 s8 (fun k e => by cases e; exact Nat.le_refl _))
 ·omega
theorem keeping_any (w : World) : Calls Tryz.prog 94 #[] w (NewB w (findI (opRow 5))) := by
 have hmm := @run_makeMap Tryz.prog
 have hb4 := build4
 unfold tI at hb4
 obtain ⟨B, hB⟩ : ∃ B, w.heap.size = B := ⟨_, rfl⟩
 have h0 : MapB (w.alloc (.map #[] 0)) B 0 (fun _ => none) := hB ▸ MapB.made w
 have hg0 : Below B w (w.alloc (.map #[] 0)) := (Below.refl _ w).alloc (by omega) _
 have s0 : B ≤ (w.alloc (.map #[] 0)).heap.size := by simp; omega
 go_enter Tryz.func94, Tryz.ntmps94
 go_wp2_with (first | (refine wpList_putMB _ rfl _ _ _ (.inr rfl) _ _ _ rfl h0 (by omega) 80 ([80, 79, 80], 1, 0, 2) rfl (by decide) rfl ?_; intro w1 h1 g1; have s1 := Nat.le_trans s0 g1.size) | (refine wpList_putMB _ rfl _ _ _ (.inr rfl) _ _ _ rfl h1 (by omega) 81 ([77, 76, 79, 65, 68], 1, 1, 3) rfl (by decide) rfl ?_; intro w2 h2 g2; have s2 := Nat.le_trans s1 g2.size) | (refine wpList_putMB _ rfl _ _ _ (.inr rfl) _ _ _ rfl h2 (by omega) 82 ([77, 83, 84, 79, 82, 69], 2, 0, 3) rfl (by decide) rfl ?_; intro w3 h3 g3; have s3 := Nat.le_trans s2 g3.size) | (refine wpList_putMB _ rfl _ _ _ (.inr rfl) _ _ _ rfl h3 (by omega) 83 ([77, 83, 84, 79, 82, 69, 56], 2, 0, 3) rfl (by decide) rfl ?_; intro w4 h4 g4; have s4 := Nat.le_trans s3 g4.size) | (refine wpList_putMB _ rfl _ _ _ (.inr rfl) _ _ _ rfl h4 (by omega) 84 ([83, 76, 79, 65, 68], 1, 1, 0) rfl (by decide) rfl ?_; intro w5 h5 g5; have s5 := Nat.le_trans s4 g5.size) | (refine wpList_putMB _ rfl _ _ _ (.inr rfl) _ _ _ rfl h5 (by omega) 85 ([83, 83, 84, 79, 82, 69], 2, 0, 0) rfl (by decide) rfl ?_; intro w6 h6 g6; have s6 := Nat.le_trans s5 g6.size) | (refine wpList_putMB _ rfl _ _ _ (.inr rfl) _ _ _ rfl h6 (by omega) 86 ([74, 85, 77, 80], 1, 0, 8) rfl (by decide) rfl ?_; intro w7 h7 g7; have s7 := Nat.le_trans s6 g7.size) | (refine wpList_putMB _ rfl _ _ _ (.inr rfl) _ _ _ rfl h7 (by omega) 87 ([74, 85, 77, 80, 73], 2, 0, 10) rfl (by decide) rfl ?_; intro w8 h8 g8; have s8 := Nat.le_trans s7 g8.size) | (refine wpList_putMB _ rfl _ _ _ (.inr rfl) _ _ _ rfl h8 (by omega) 88 ([80, 67], 0, 1, 2) rfl (by decide) rfl ?_; intro w9 h9 g9; have s9 := Nat.le_trans s8 g9.size) | (refine wpList_putMB _ rfl _ _ _ (.inr rfl) _ _ _ rfl h9 (by omega) 89 ([77, 83, 73, 90, 69], 0, 1, 2) rfl (by decide) rfl ?_; intro w10 h10 g10; have s10 := Nat.le_trans s9 g10.size) | (refine wpList_putMB _ rfl _ _ _ (.inr rfl) _ _ _ rfl h10 (by omega) 90 ([71, 65, 83], 0, 1, 2) rfl (by decide) rfl ?_; intro w11 h11 g11; have s11 := Nat.le_trans s10 g11.size) | (refine wpList_putMB _ rfl _ _ _ (.inr rfl) _ _ _ rfl h11 (by omega) 91 ([74, 85, 77, 80, 68, 69, 83, 84], 0, 0, 1) rfl (by decide) rfl ?_; intro w12 h12 g12; have s12 := Nat.le_trans s11 g12.size) | (refine wpList_putMB _ rfl _ _ _ (.inr rfl) _ _ _ rfl h12 (by omega) 95 ([80, 85, 83, 72, 48], 0, 1, 2) rfl (by decide) rfl ?_; intro w13 h13 g13; have s13 := Nat.le_trans s12 g13.size) | go_in)
 go_ret
 refine ⟨B, _, rfl, ?_, MapB.congr (by assumption) ?_, by omega, ?_⟩
 rotate_left
 ·decide +kernel
 ·rw [hB]
  exact (((((((((((((hg0.grown g1 s0 (fun k e => by cases e; exact Nat.le_refl _)).grown g2 s1 (fun k e => by cases e; exact Nat.le_refl _)).grown g3 s2 (fun k e => by cases e; exact Nat.le_refl _)).grown g4 s3 (fun k e => by cases e; exact Nat.le_refl _)).grown g5 s4 (fun k e => by cases e; exact Nat.le_refl _)).grown g6 s5 (fun k e => by cases e; exact Nat.le_refl _)).grown g7 s6 (fun k e => by cases e; exact Nat.le_refl _)).grown g8 s7 (fun k e => by cases e; exact Nat.le_refl _)).grown g9 s8 (fun k e => by cases e; exact Nat.le_refl _)).grown g10 s9 (fun k e => by cases e; exact Nat.le_refl _)).grown g11 s10 (fun k e => by cases e; exact Nat.le_refl _)).grown g12 s11 (fun k e => by cases e; exact Nat.le_refl _)).grown g13 s12 (fun k e => by cases e; exact Nat.le_refl _))
 ·omega
theorem calling_any (w : World) : Calls Tryz.prog 100 #[] w (NewB w (findI (opRow 15))) := by
 have hmm := @run_makeMap Tryz.prog
 have hb4 := build4
 unfold tI at hb4
 obtain ⟨B, hB⟩ : ∃ B, w.heap.size = B := ⟨_, rfl⟩
 have h0 : MapB (w.alloc (.map #[] 0)) B 0 (fun _ => none) := hB ▸ MapB.made w
 have hg0 : Below B w (w.alloc (.map #[] 0)) := (Below.refl _ w).alloc (by omega) _
 have s0 : B ≤ (w.alloc (.map #[] 0)).heap.size := by simp; omega
 go_enter Tryz.func100, Tryz.ntmps100
 go_wp2_with (first | (refine wpList_putMB _ rfl _ _ _ (.inr rfl) _ _ _ rfl h0 (by omega) 240 ([67, 82, 69, 65, 84, 69], 3, 1, 32000) rfl (by decide) rfl ?_; intro w1 h1 g1; have s1 := Nat.le_trans s0 g1.size) | (refine wpList_putMB _ rfl _ _ _ (.inr rfl) _ _ _ rfl h1 (by omega) 241 ([67, 65, 76, 76], 7, 1, 0) rfl (by decide) rfl ?_; intro w2 h2 g2; have s2 := Nat.le_trans s1 g2.size) | (refine wpList_putMB _ rfl _ _ _ (.inr rfl) _ _ _ rfl h2 (by omega) 242 ([67, 65, 76, 76, 67, 79, 68, 69], 7, 1, 0) rfl (by decide) rfl ?_; intro w3 h3 g3; have s3 := Nat.le_trans s2 g3.size) | (refine wpList_putMB _ rfl _ _ _ (.inr rfl) _ _ _ rfl h3 (by omega) 243 ([82, 69, 84, 85, 82, 78], 2, 0, 0) rfl (by decide) rfl ?_; intro w4 h4 g4; have s4 := Nat.le_trans s3 g4.size) | (refine wpList_putMB _ rfl _ _ _ (.inr rfl) _ _ _ rfl h4 (by omega) 244 ([68, 69, 76, 69, 71, 65, 84, 69, 67, 65, 76, 76], 6, 1, 0) rfl (by decide) rfl ?_; intro w5 h5 g5; have s5 := Nat.le_trans s4 g5.size) | (refine wpList_putMB _ rfl _ _ _ (.inr rfl) _ _ _ rfl h5 (by omega) 245 ([67, 82, 69, 65, 84, 69, 50], 4, 1, 32000) rfl (by decide) rfl ?_; intro w6 h6 g6; have s6 := Nat.le_trans s5 g6.size) | (refine wpList_putMB _ rfl _ _ _ (.inr rfl) _ _ _ rfl h6 (by omega) 250 ([83, 84, 65, 84, 73, 67, 67, 65, 76, 76], 6, 1, 0) rfl (by decide) rfl ?_; intro w7 h7 g7; have s7 := Nat.le_trans s6 g7.size) | (refine wpList_putMB _ rfl _ _ _ (.inr rfl) _ _ _ rfl h7 (by omega) 253 ([82, 69, 86, 69, 82, 84], 2, 0, 0) rfl (by decide) rfl ?_; intro w8 h8 g8; have s8 := Nat.le_trans s7 g8.size) | (refine wpList_putMB _ rfl _ _ _ (.inr rfl) _ _ _ rfl h8 (by omega) 254 ([73, 78, 86, 65, 76, 73, 68], 0, 0, 0) rfl (by decide) rfl ?_; intro w9 h9 g9; have s9 := Nat.le_trans s8 g9.size) | (refine wpList_putMB _ rfl _ _ _ (.inr rfl) _ _ _ rfl h9 (by omega) 255 ([83, 69, 76, 70, 68, 69, 83, 84, 82, 85, 67, 84], 1, 0, 5000) rfl (by decide) rfl ?_; intro w10 h10 g10; have s10 := Nat.le_trans s9 g10.size) | go_in)
 go_ret
 refine ⟨B, _, rfl, ?_, MapB.congr (by assumption) ?_, by omega, ?_⟩
 rotate_left
 ·decide +kernel
 ·rw [hB]
  exact ((((((((((hg0.grown g1 s0 (fun k e => by cases e; exact Nat.le_refl _)).grown g2 s1 (fun k e => by cases e; exact Nat.le_refl _)).grown g3 s2 (fun k e => by cases e; exact Nat.le_refl _)).grown g4 s3 (fun k e => by cases e; exact Nat.le_refl _)).grown g5 s4 (fun k e => by cases e; exact Nat.le_refl _)).grown g6 s5 (fun k e => by cases e; exact Nat.le_refl _)).grown g7 s6 (fun k e => by cases e; exact Nat.le_refl _)).grown g8 s7 (fun k e => by cases e; exact Nat.le_refl _)).grown g9 s8 (fun k e => by cases e; exact Nat.le_refl _)).grown g10 s9 (fun k e => by cases e; exact Nat.le_refl _))
 ·omega
theorem wpList_cutS (w : World) {ops : Array Oper} {rest : List Oper} {o : Oper} {a : Act} {Q : Exit → Act → World → Prop} (hg : o.guard = none) (x l h : Operand) (hop : o.op = .slice tSt x (some l) (some h) none) (s : ByteArray) (hx : a.eval x = .string s) (N : Nat) (hs : s.size = N)
  (i j : Int) (hl : a.eval l = .int .i64 i) (hh : a.eval h = .int .i64 j) (h0 : 0 ≤ i) (h1 : i ≤ j) (h2 : j ≤ (N : Int)) (hK : wpList Tryz.prog ops Q rest (a.put o.dst (.string (s.extract i.toNat j.toNat))) w) : wpList Tryz.prog ops Q (o :: rest) a w := by
 refine wpList_plain hg fun K' hK' => ?_
 have hrun : (Instr.sliceAt tSt (.string s) (some (.int .i64 i)) (some (.int .i64 j)) none).run Tryz.prog w = .ok (.string (s.extract i.toNat j.toNat)) w := by
  rw [run_sliceAt_string _ _ _ _ _ _ Tryz.underlying9, run_slice_string _ _ _ _ _ _ _ Tryz.underlying9 h0 h1 (by omega)]
 unfold Oper.wp
 simp [execOp, hop, hx, hl, hh, hrun, Result.andThen]
 exact hK' _ _ hK
def decL (n : Nat) : List UInt8 := if n < 10 then [UInt8.ofNat (48 + n)] else [UInt8.ofNat (48 + n / 10), UInt8.ofNat (48 + n % 10)]
theorem small_any (n : Nat) (hn : n < 40) (w : World) : Calls Tryz.prog 184 #[.int .i64 (n : Int)] w fun e w' => e = .returned (.string ⟨(decL n).toArray⟩) ∧ w' = w := by
 have h0 : (0 : Int) ≤ (n : Int) := by omega
 by_cases h : (n : Int) < 10
 ·have h1 : n < 10 := by omega
  go_enter Tryz.func184, Tryz.ntmps184
  go_wp2_with (refine wpList_cutS _ rfl _ _ _ rfl _ rfl 36 (by kernel_rfl) _ _ rfl rfl h0 (by omega) (by omega) ?_)
  go_ret
  refine ⟨?_, rfl⟩
  refine congrArg Ending.returned (congrArg Value.string ?_)
  exact (by decide +kernel : ∀ n : Nat, n < 40 → n < 10 → (ByteArray.mk #[48, 49, 50, 51, 52, 53, 54, 55, 56, 57, 97, 98, 99, 100, 101, 102, 103, 104, 105, 106, 107, 108, 109, 110, 111, 112, 113, 114, 115, 116, 117, 118, 119, 120, 121, 122]).extract n (n + 1) = ⟨(decL n).toArray⟩) n hn h1
 ·have h1 : ¬ n < 10 := by omega
  go_enter Tryz.func184, Tryz.ntmps184
  go_wp2_with (refine wpList_cutS _ rfl _ _ _ rfl _ rfl 200 (by kernel_rfl) _ _ rfl rfl (by omega) (by omega) (by omega) ?_)
  go_ret
  refine ⟨?_, rfl⟩
  refine congrArg Ending.returned (congrArg Value.string ?_)
  clear h h0
  revert n
  decide +kernel
theorem itoa_any (n : Nat) (hn : n < 40) (w : World) : Calls Tryz.prog 133 #[.int .i64 (n : Int)] w fun e w' => e = .returned (.string ⟨(decL n).toArray⟩) ∧ w' = w := by
 have h0 : (0 : Int) ≤ (n : Int) := by omega
 have h1 : (n : Int) < 100 := by omega
 have hs := hid (small_any n hn)
 go_enter Tryz.func133, Tryz.ntmps133
 go_wp2_with (first | (go_at_call 184; refine (hs.out _).mono ?_; rintro e w' ⟨rfl, rfl⟩) | go_in)
 go_ret
 exact ⟨rfl, rfl⟩
theorem results_inf {fn : Func} {t : Tmp} {tmps : Array Value} {W : World} {B : Nat} {s a b c : Value} (h : fn.results = #[ResultVar.cell t tI]) (ht : tmps.getD t undef = .pointer (some ⟨B, 0, none⟩)) (hA : Has W B tI #[s, a, b, c]) :
  (results fn tmps).run Tryz.prog W = .ok (.agg #[s, a, b, c]) W := by
 obtain ⟨e0, e1, e2, e3⟩ := c4 hA
 simp at ht
 simp [results, h, ht, go_sem, e0, e1, e2, e3]
theorem results_infB {fn : Func} {t u : Tmp} {tmps : Array Value} {W : World} {B : Nat} {s a b c v : Value} {T : TypeId} (hT : T = tI ∨ T = 37) (h : fn.results = #[ResultVar.cell t T, ResultVar.tmp u]) (ht : tmps.getD t undef = .pointer (some ⟨B, 0, none⟩)) (hu : tmps.getD u undef = v) (hA : Has W B T #[s, a, b, c]) :
  (results fn tmps).run Tryz.prog W = .ok (.tuple #[.agg #[s, a, b, c], v]) W := by
 obtain ⟨e0, e1, e2, e3⟩ := c4 hA
 simp at ht hu
 rcases hT with rfl | rfl <;> simp [results, h, ht, hu, go_sem, e0, e1, e2, e3]
def RuleOk (g : Nat) (r : Nat → Nat × Nat × Nat) : Prop := ∀ n : Nat, n < 40 → ∀ w, Calls Tryz.prog g #[.int .i64 (n : Int)] w fun e w' => e = .returned (infV ([], r n)) ∧ Below w.heap.size w w'
theorem build_push (w : World) : (Instr.build tI #[(2, .int .i64 1), (3, .int .i64 3)]).run Tryz.prog w = .ok (.agg #[.string ⟨#[]⟩, .int .i64 0, .int .i64 1, .int .i64 3]) w := by kernel_rfl
theorem build_dup (a b : Int) (w : World) : (Instr.build tI #[(1, .int .i64 a), (2, .int .i64 b), (3, .int .i64 3)]).run Tryz.prog w = .ok (.agg #[.string ⟨#[]⟩, .int .i64 a, .int .i64 b, .int .i64 3]) w := by kernel_rfl
theorem build_log (a b : Int) (w : World) : (Instr.build tI #[(1, .int .i64 a), (3, .int .i64 b)]).run Tryz.prog w = .ok (.agg #[.string ⟨#[]⟩, .int .i64 a, .int .i64 0, .int .i64 b]) w := by kernel_rfl
theorem rule_pushing : RuleOk 96 (fun _n => (0, 1, 3)) := by
 intro n hn w
 have hb := build_push
 unfold tI at hb
 go_enter Tryz.func96, Tryz.ntmps96
 go_wp2_with go_in
 exact bodyPost_ret (results_inf rfl rfl (Has.new _ _ _)) rfl ⟨rfl, (Below.refl _ _).alloc (Nat.le_refl _) _⟩
theorem rule_row1 : RuleOk 97 (fun n => (n, n + 1, 3)) := by
 intro n hn w
 have hb := build_dup
 unfold tI at hb
 go_enter Tryz.func97, Tryz.ntmps97
 go_wp2_with go_in
 exact bodyPost_ret (results_inf rfl rfl (Has.new _ _ _)) rfl ⟨rfl, (Below.refl _ _).alloc (Nat.le_refl _) _⟩
theorem rule_row2 : RuleOk 98 (fun n => (n + 1, n + 1, 3)) := by
 intro n hn w
 have hb := build_dup
 unfold tI at hb
 go_enter Tryz.func98, Tryz.ntmps98
 go_wp2_with go_in
 exact bodyPost_ret (results_inf rfl rfl (Has.new _ _ _)) rfl ⟨rfl, (Below.refl _ _).alloc (Nat.le_refl _) _⟩
theorem rule_row3 : RuleOk 99 (fun n => (n + 2, 0, 375 * (n + 1))) := by
 intro n hn w
 have hb := build_log
 unfold tI at hb
 go_enter Tryz.func99, Tryz.ntmps99
 go_wp2_with go_in
 exact bodyPost_ret (results_inf rfl rfl (Has.new _ _ _)) rfl ⟨rfl, (Below.refl _ _).alloc (Nat.le_refl _) _⟩
end
section
open Go Go.RowKit Go.Maps
attribute [local go_sem] Oper.semAt_some Grows wide_fn
def MapV (w : World) (v : Value) (n : Nat) (f : Nat → Option Inf) : Prop := (v = .map none ∧ ∀ op, op < 256 → f op = none) ∨ ∃ B, v = .map (some B) ∧ MapB w B n f
theorem MapV.later {w w' : World} {v : Value} {n : Nat} {f : Nat → Option Inf} (h : MapV w v n f) (hb : Below w.heap.size w w') : MapV w' v n f := by
 rcases h with h | ⟨B, e, h⟩
 ·exact .inl h
 ·exact .inr ⟨B, e, h.below hb h.lt⟩
theorem wpList_lookV (w : World) {ops : Array Oper} {rest : List Oper} {o : Oper} {a : Act} {Q : Exit → Act → World → Prop} (hg : o.guard = none) (m k : Operand) (hop : o.op = Op.lookup tMB m k true) (v : Value) (n : Nat) (f : Nat → Option Inf) (hm : a.eval m = v) (hown : MapV w v n f)
  (op : Nat) (hk : a.eval k = .int .u8 (op : Int)) (hop' : op < 256) (V : Value) (hV : lookV f op = V) (hK : wpList Tryz.prog ops Q rest (a.put o.dst V) w) : wpList Tryz.prog ops Q (o :: rest) a w := by
 subst hV
 rcases hown with ⟨rfl, hf⟩ | ⟨B, rfl, h⟩
 ·refine wpList_lookB_nil w hg m k hop hm op hk hop' ?_
  have : lookV (fun _ => none) op = lookV f op := by unfold lookV; rw [hf op hop']
  rw [this]
  exact hK
 ·exact wpList_lookB w hg m k hop B n f hm h op hk hop' hK
theorem look_any (W : World) (v : Value) (n : Nat) (f : Nat → Option Inf) (h : MapV W v n f) (op : Nat) (ho : op < 256) :
  Calls Tryz.prog 61 #[v, .int .u8 (op : Int)] W fun e w' => e = .returned (lookV f op) ∧ Below W.heap.size W w' := by
 obtain ⟨y, hy⟩ : ∃ y, (f op).getD noInf = y := ⟨_, rfl⟩
 obtain ⟨b, hb⟩ : ∃ b, (f op).isSome = b := ⟨_, rfl⟩
 obtain ⟨nm, po, pu, ga⟩ := y
 obtain ⟨s, hs⟩ : ∃ s : ByteArray, (⟨nm.toArray⟩ : ByteArray) = s := ⟨_, rfl⟩
 have e : lookV f op = .tuple #[.agg #[.string s, .int .i64 (po : Int), .int .i64 (pu : Int), .int .i64 (ga : Int)], .bool b] := by unfold lookV infV; rw [hy, hb, ← hs]
 have HE := hid e
 have HM := hid h
 have HO := hid ho
 clear e hs hy hb h ho
 obtain ⟨W1, hW1⟩ : ∃ W1, W.alloc (.cells #[.string ⟨#[]⟩, .int .i64 0, .int .i64 0, .int .i64 0] tI) = W1 := ⟨_, rfl⟩
 have q1 : Below W.heap.size W W1 := hW1 ▸ (Below.refl _ W).alloc (Nat.le_refl _) _
 have n1 : Has W1 W.heap.size tI #[.string ⟨#[]⟩, .int .i64 0, .int .i64 0, .int .i64 0] := hW1 ▸ Has.new _ _ _
 obtain ⟨W2, hW2⟩ : ∃ W2, W1.alloc (.cells #[.string s, .int .i64 (po : Int), .int .i64 (pu : Int), .int .i64 (ga : Int)] tI) = W2 := ⟨_, rfl⟩
 have q2 : Below W1.heap.size W1 W2 := hW2 ▸ (Below.refl _ W1).alloc (Nat.le_refl _) _
 have m2 : Has W2 W1.heap.size tI #[.string s, .int .i64 (po : Int), .int .i64 (pu : Int), .int .i64 (ga : Int)] := hW2 ▸ Has.new _ _ _
 have n2 := n1.later q2
 have HM1 := hid (HM.out.later q1)
 have HQ2 := hid (q1.trans (q2.mono q1.size))
 have HN2 := hid n2
 obtain ⟨ac0, ac1, ac2, ac3⟩ := c4 n2
 have af0 := n2.frozen 0
 have af1 := n2.frozen 1
 have af2 := n2.frozen 2
 have af3 := n2.frozen 3
 obtain ⟨bc0, bc1, bc2, bc3⟩ := c4 m2
 unfold tI at hW1 hW2
 clear q1 n1 q2 m2 n2 HM
 go_enter Tryz.func61, Tryz.ntmps61
 go_wp2_with (refine wpList_lookV _ rfl _ _ rfl _ _ _ rfl HM1.out _ rfl HO.out _ HE.out ?_)
 rw [HE.out]
 exact bodyPost_ret (results_infB (.inl rfl) rfl rfl rfl ((((HN2.out.set 0 _).set 1 _).set 2 _).set 3 _)) rfl ⟨rfl, (((HQ2.out.setCell (Nat.le_refl _) _).setCell (Nat.le_refl _) _).setCell (Nat.le_refl _) _).setCell (Nat.le_refl _) _⟩
def numF (op : Nat) (nm : List UInt8) (n : Nat) (r : Nat → Nat × Nat × Nat) (k : Nat) : Nat → Option Inf := fun o => if op ≤ o ∧ o < op + k then some (nm ++ decL (n + (o - op)), r (n + (o - op))) else none
theorem numF_zero (op : Nat) (nm : List UInt8) (n : Nat) (r : Nat → Nat × Nat × Nat) : numF op nm n r 0 = fun _ => none := by funext o; unfold numF; rw [if_neg (by omega)]
theorem numF_succ (op : Nat) (nm : List UInt8) (n : Nat) (r : Nat → Nat × Nat × Nat) (k : Nat) : putMB (numF op nm n r k) (op + k) (nm ++ decL (n + k), r (n + k)) = numF op nm n r (k + 1) := by
 funext o
 unfold putMB numF
 by_cases h : o = op + k
 ·subst h
  rw [if_pos rfl, if_pos (by omega), show op + k - op = k by omega]
 ·rw [if_neg h]
  by_cases h2 : op ≤ o ∧ o < op + k
  ·rw [if_pos h2, if_pos (by omega)]
  ·rw [if_neg h2, if_neg (by omega)]
theorem catB (a b : List UInt8) : (ByteArray.mk a.toArray) ++ (ByteArray.mk b.toArray) = ⟨(a ++ b).toArray⟩ := by
 apply ByteArray.ext
 simp
theorem run_makeMap_hint {P : Program} (t k e : TypeId) (kd : IntKind) (n : Int) (ht : P.underlying t = some (.map k e)) (w : World) :
  (Instr.makeMap t (some (.int kd n))).run P w = .ok (.map (some w.heap.size)) (w.alloc (.map #[] 0)) := by
 simp [Instr.makeMap, run_underlying ht]; rfl
theorem numbered_pushing (r : Nat → Nat × Nat × Nat) (hr : RuleOk 96 r) (op : Nat) (nm : List UInt8) (n N : Nat) (hop : op + N < 256) (hnm : nm.length ≤ 5) (hN0 : 0 < N) (hnN : n + N ≤ 40) (W : World) :
  Calls Tryz.prog 95 #[.int .u8 (op : Int), .string ⟨nm.toArray⟩, .int .i64 (n : Int), .int .i64 ((n : Int) + (N : Int) - 1), .func (.func 96) #[] #[]] W (NewB W (numF op nm n r N)) := by
 have HR := hid hr
 have hmm := fun (x : Int) => run_makeMap_hint (P := Tryz.prog) tMB tB tI .i64 x Tryz.underlying70
 unfold tMB at hmm
 have HH := hid (And.intro hop (And.intro hnm (And.intro hN0 hnN)))
 obtain ⟨lst, hlst⟩ : ∃ lst : Int, (n : Int) + (N : Int) - 1 = lst := ⟨_, rfl⟩
 rw [hlst]
 have HL := hid hlst
 obtain ⟨s, hs⟩ : ∃ s : ByteArray, (⟨nm.toArray⟩ : ByteArray) = s := ⟨_, rfl⟩
 rw [hs]
 have HS := hid hs
 have l0 : (0 : Int) ≤ lst := by omega
 have l1 : lst < 40 := by omega
 have n0 : (0 : Int) ≤ (n : Int) := by omega
 have n1 : (n : Int) < 40 := by omega
 clear hlst hs hr hop hnm hN0 hnN
 obtain ⟨W1, hW1⟩ : ∃ W1, W.alloc (.map #[] 0) = W1 := ⟨_, rfl⟩
 have hm1 := hid (hW1 ▸ MapB.made W : MapB W1 W.heap.size 0 fun _ => none)
 have hq1 := hid (hW1 ▸ (Below.refl _ W).alloc (Nat.le_refl _) _ : Below W.heap.size W W1)
 go_enter Tryz.func95, Tryz.ntmps95
 go_wp2_with fail
 go_loopw [0, 12] (fun o i wr => ∃ k : Nat, k ≤ N ∧ o = .int .u8 ((op : Int) + (k : Int)) ∧ i = .int .i64 ((n : Int) + (k : Int)) ∧ MapB wr W.heap.size k (numF op nm n r k) ∧ Below W.heap.size W wr ∧ W.heap.size < wr.heap.size) (fun _ i _ => 40 - (intOf i).toNat)
 case atStart => exact ⟨0, Nat.zero_le _, by simp, by simp, by rw [numF_zero]; exact hm1.out, hq1.out, hm1.out.lt⟩
 case round =>
  obtain ⟨k, hk, rfl, rfl, hm, hq, hlt⟩ := hrel
  have HM := hid hm
  have HQ := hid (And.intro hq hlt)
  clear hm hq hlt hm1 hq1 hW1
  by_cases hkN : k < N
  ·have c1 : (n : Int) + (k : Int) ≤ lst := by have := HL.out; omega
   have c2 : (0 : Int) ≤ (k : Int) := by omega
   have c3 : (op : Int) + (k : Int) + 1 ≤ 255 := by have := HH.out.1; omega
   have c4 : (0 : Int) ≤ (op : Int) := by omega
   obtain ⟨po, pu, ga, hrp⟩ : ∃ po pu ga, r (n + k) = (po, pu, ga) := ⟨_, _, _, rfl⟩
   have HC := hid (HR.out (n + k) (by have := HH.out.2.2.2; omega) wr)
   have HI := hid (itoa_any (n + k) (by have := HH.out.2.2.2; omega))
   rw [hrp] at HC
   unfold infV at HC
   simp only [Int.natCast_add] at HC HI
   have HP := hid hrp
   have hsz : ¬ 9223372036854775807 < s.size + (decL (n + k)).length := by
    have e1 : s.size = nm.length := by rw [← HS.out]; simp [ByteArray.size]
    have e2 : (decL (n + k)).length ≤ 2 := by unfold decL; split <;> simp
    have := HH.out.2.1
    omega
   have HK := hid hkN
   clear hkN hk hrp
   go_wp2_with (go_at_call 96; refine HC.out.mono ?_; rintro _ w1 ⟨rfl, q1⟩)
   obtain ⟨W2, hW2⟩ : ∃ W2, w1.alloc (.cells #[.string ⟨#[]⟩, .int .i64 (po : Int), .int .i64 (pu : Int), .int .i64 (ga : Int)] tI) = W2 := ⟨_, rfl⟩
   have q2 : Below w1.heap.size w1 W2 := hW2 ▸ (Below.refl _ w1).alloc (Nat.le_refl _) _
   have m2 : Has W2 w1.heap.size tI #[.string ⟨#[]⟩, .int .i64 (po : Int), .int .i64 (pu : Int), .int .i64 (ga : Int)] := hW2 ▸ Has.new _ _ _
   have q12 := q1.trans (q2.mono q1.size)
   have hm2 := HM.out.below q12 HQ.out.2
   have Q2 := hid (HQ.out.1.trans (q12.mono HQ.out.1.size))
   have HL1 := hid (show W.heap.size < w1.heap.size from Nat.lt_of_lt_of_le HQ.out.2 q1.size)
   have m3 := m2.set 0 (.string (s ++ ⟨(decL (n + k)).toArray⟩))
   have M2 := hid (show MapB (W2.setCell ⟨w1.heap.size, 0, none⟩ (.string (s ++ ⟨(decL (n + k)).toArray⟩))) W.heap.size k (numF op nm n r k) from hm2.below (b := w1.heap.size) ((Below.refl _ W2).setCell (p := ⟨w1.heap.size, 0, none⟩) (Nat.le_refl _) _) HL1.out)
   have Q3 := hid (Q2.out.setCell (p := ⟨w1.heap.size, 0, none⟩) (Nat.le_of_lt HL1.out) (.string (s ++ ⟨(decL (n + k)).toArray⟩)))
   have L3 := hid (show W.heap.size < (W2.setCell ⟨w1.heap.size, 0, none⟩ (.string (s ++ ⟨(decL (n + k)).toArray⟩))).heap.size from M2.out.lt)
   unfold tI at hW2
   rw [hW2]
   have a0 := m2.cell 0 _ rfl
   have af := m2.frozen 0
   obtain ⟨bc0, bc1, bc2, bc3⟩ := Go.Proofs.YtnkhmgmganejmaaGreatDoor.c4 m3
   clear q1 q2 m2 m3 q12 hm2 hW2
   have HX := hid (show Value.agg #[.string (s ++ ⟨(decL (n + k)).toArray⟩), .int .i64 (po : Int), .int .i64 (pu : Int), .int .i64 (ga : Int)] = infV (nm ++ decL (n + k), r (n + k)) by rw [HP.out, ← HS.out]; unfold infV; rw [catB])
   refine (HI.out _).mono ?_
   rintro _ w3 ⟨rfl, rfl⟩
   go_wp2_with (refine wpList_putMB _ rfl _ _ _ (.inl rfl) _ _ _ rfl M2.out (by have := HH.out.2.2.2; have := HK.out; omega) (op + k) (nm ++ decL (n + k), r (n + k)) (by simp only [Int.natCast_add]; rfl) (by have := HH.out.1; have := HK.out; omega) (HX.out) ?_; intro w4 h4 g4)
   case roundEnd =>
    have hg := HQ.out
    rw [numF_succ] at h4
    have hb4 := Q3.out.grown g4 (Nat.le_of_lt L3.out) (fun j e => by cases e; exact Nat.le_refl _)
    refine ⟨⟨k + 1, by have := HK.out; omega, congrArg (Value.int .u8) (by simp; omega), congrArg (Value.int .i64) (by simp; omega), h4, hb4, Nat.lt_of_lt_of_le L3.out g4.size⟩, ?_⟩
    simp only [intOf]
    omega
  ·obtain rfl : k = N := by omega
   have c1 : ¬ ((n : Int) + (k : Int) ≤ lst) := by have := HL.out; omega
   have c2 : (0 : Int) ≤ (k : Int) := by omega
   clear hkN hk
   go_wp2_with fail
   go_ret
   exact ⟨_, k, rfl, by have := HH.out.2.2.2; omega, HM.out, Nat.le_refl _, HQ.out.1⟩
theorem numbered_row1 (r : Nat → Nat × Nat × Nat) (hr : RuleOk 97 r) (op : Nat) (nm : List UInt8) (n N : Nat) (hop : op + N < 256) (hnm : nm.length ≤ 5) (hN0 : 0 < N) (hnN : n + N ≤ 40) (W : World) :
  Calls Tryz.prog 95 #[.int .u8 (op : Int), .string ⟨nm.toArray⟩, .int .i64 (n : Int), .int .i64 ((n : Int) + (N : Int) - 1), .func (.func 97) #[] #[]] W (NewB W (numF op nm n r N)) := by
 have HR := hid hr
 have hmm := fun (x : Int) => run_makeMap_hint (P := Tryz.prog) tMB tB tI .i64 x Tryz.underlying70
 unfold tMB at hmm
 have HH := hid (And.intro hop (And.intro hnm (And.intro hN0 hnN)))
 obtain ⟨lst, hlst⟩ : ∃ lst : Int, (n : Int) + (N : Int) - 1 = lst := ⟨_, rfl⟩
 rw [hlst]
 have HL := hid hlst
 obtain ⟨s, hs⟩ : ∃ s : ByteArray, (⟨nm.toArray⟩ : ByteArray) = s := ⟨_, rfl⟩
 rw [hs]
 have HS := hid hs
 have l0 : (0 : Int) ≤ lst := by omega
 have l1 : lst < 40 := by omega
 have n0 : (0 : Int) ≤ (n : Int) := by omega
 have n1 : (n : Int) < 40 := by omega
 clear hlst hs hr hop hnm hN0 hnN
 obtain ⟨W1, hW1⟩ : ∃ W1, W.alloc (.map #[] 0) = W1 := ⟨_, rfl⟩
 have hm1 := hid (hW1 ▸ MapB.made W : MapB W1 W.heap.size 0 fun _ => none)
 have hq1 := hid (hW1 ▸ (Below.refl _ W).alloc (Nat.le_refl _) _ : Below W.heap.size W W1)
 go_enter Tryz.func95, Tryz.ntmps95
 go_wp2_with fail
 go_loopw [0, 12] (fun o i wr => ∃ k : Nat, k ≤ N ∧ o = .int .u8 ((op : Int) + (k : Int)) ∧ i = .int .i64 ((n : Int) + (k : Int)) ∧ MapB wr W.heap.size k (numF op nm n r k) ∧ Below W.heap.size W wr ∧ W.heap.size < wr.heap.size) (fun _ i _ => 40 - (intOf i).toNat)
 case atStart => exact ⟨0, Nat.zero_le _, by simp, by simp, by rw [numF_zero]; exact hm1.out, hq1.out, hm1.out.lt⟩
 case round =>
  obtain ⟨k, hk, rfl, rfl, hm, hq, hlt⟩ := hrel
  have HM := hid hm
  have HQ := hid (And.intro hq hlt)
  clear hm hq hlt hm1 hq1 hW1
  by_cases hkN : k < N
  ·have c1 : (n : Int) + (k : Int) ≤ lst := by have := HL.out; omega
   have c2 : (0 : Int) ≤ (k : Int) := by omega
   have c3 : (op : Int) + (k : Int) + 1 ≤ 255 := by have := HH.out.1; omega
   have c4 : (0 : Int) ≤ (op : Int) := by omega
   obtain ⟨po, pu, ga, hrp⟩ : ∃ po pu ga, r (n + k) = (po, pu, ga) := ⟨_, _, _, rfl⟩
   have HC := hid (HR.out (n + k) (by have := HH.out.2.2.2; omega) wr)
   have HI := hid (itoa_any (n + k) (by have := HH.out.2.2.2; omega))
   rw [hrp] at HC
   unfold infV at HC
   simp only [Int.natCast_add] at HC HI
   have HP := hid hrp
   have hsz : ¬ 9223372036854775807 < s.size + (decL (n + k)).length := by
    have e1 : s.size = nm.length := by rw [← HS.out]; simp [ByteArray.size]
    have e2 : (decL (n + k)).length ≤ 2 := by unfold decL; split <;> simp
    have := HH.out.2.1
    omega
   have HK := hid hkN
   clear hkN hk hrp
   go_wp2_with (go_at_call 97; refine HC.out.mono ?_; rintro _ w1 ⟨rfl, q1⟩)
   obtain ⟨W2, hW2⟩ : ∃ W2, w1.alloc (.cells #[.string ⟨#[]⟩, .int .i64 (po : Int), .int .i64 (pu : Int), .int .i64 (ga : Int)] tI) = W2 := ⟨_, rfl⟩
   have q2 : Below w1.heap.size w1 W2 := hW2 ▸ (Below.refl _ w1).alloc (Nat.le_refl _) _
   have m2 : Has W2 w1.heap.size tI #[.string ⟨#[]⟩, .int .i64 (po : Int), .int .i64 (pu : Int), .int .i64 (ga : Int)] := hW2 ▸ Has.new _ _ _
   have q12 := q1.trans (q2.mono q1.size)
   have hm2 := HM.out.below q12 HQ.out.2
   have Q2 := hid (HQ.out.1.trans (q12.mono HQ.out.1.size))
   have HL1 := hid (show W.heap.size < w1.heap.size from Nat.lt_of_lt_of_le HQ.out.2 q1.size)
   have m3 := m2.set 0 (.string (s ++ ⟨(decL (n + k)).toArray⟩))
   have M2 := hid (show MapB (W2.setCell ⟨w1.heap.size, 0, none⟩ (.string (s ++ ⟨(decL (n + k)).toArray⟩))) W.heap.size k (numF op nm n r k) from hm2.below (b := w1.heap.size) ((Below.refl _ W2).setCell (p := ⟨w1.heap.size, 0, none⟩) (Nat.le_refl _) _) HL1.out)
   have Q3 := hid (Q2.out.setCell (p := ⟨w1.heap.size, 0, none⟩) (Nat.le_of_lt HL1.out) (.string (s ++ ⟨(decL (n + k)).toArray⟩)))
   have L3 := hid (show W.heap.size < (W2.setCell ⟨w1.heap.size, 0, none⟩ (.string (s ++ ⟨(decL (n + k)).toArray⟩))).heap.size from M2.out.lt)
   unfold tI at hW2
   rw [hW2]
   have a0 := m2.cell 0 _ rfl
   have af := m2.frozen 0
   obtain ⟨bc0, bc1, bc2, bc3⟩ := Go.Proofs.YtnkhmgmganejmaaGreatDoor.c4 m3
   clear q1 q2 m2 m3 q12 hm2 hW2
   have HX := hid (show Value.agg #[.string (s ++ ⟨(decL (n + k)).toArray⟩), .int .i64 (po : Int), .int .i64 (pu : Int), .int .i64 (ga : Int)] = infV (nm ++ decL (n + k), r (n + k)) by rw [HP.out, ← HS.out]; unfold infV; rw [catB])
   refine (HI.out _).mono ?_
   rintro _ w3 ⟨rfl, rfl⟩
   go_wp2_with (refine wpList_putMB _ rfl _ _ _ (.inl rfl) _ _ _ rfl M2.out (by have := HH.out.2.2.2; have := HK.out; omega) (op + k) (nm ++ decL (n + k), r (n + k)) (by simp only [Int.natCast_add]; rfl) (by have := HH.out.1; have := HK.out; omega) (HX.out) ?_; intro w4 h4 g4)
   case roundEnd =>
    have hg := HQ.out
    rw [numF_succ] at h4
    have hb4 := Q3.out.grown g4 (Nat.le_of_lt L3.out) (fun j e => by cases e; exact Nat.le_refl _)
    refine ⟨⟨k + 1, by have := HK.out; omega, congrArg (Value.int .u8) (by simp; omega), congrArg (Value.int .i64) (by simp; omega), h4, hb4, Nat.lt_of_lt_of_le L3.out g4.size⟩, ?_⟩
    simp only [intOf]
    omega
  ·obtain rfl : k = N := by omega
   have c1 : ¬ ((n : Int) + (k : Int) ≤ lst) := by have := HL.out; omega
   have c2 : (0 : Int) ≤ (k : Int) := by omega
   clear hkN hk
   go_wp2_with fail
   go_ret
   exact ⟨_, k, rfl, by have := HH.out.2.2.2; omega, HM.out, Nat.le_refl _, HQ.out.1⟩
theorem numbered_row2 (r : Nat → Nat × Nat × Nat) (hr : RuleOk 98 r) (op : Nat) (nm : List UInt8) (n N : Nat) (hop : op + N < 256) (hnm : nm.length ≤ 5) (hN0 : 0 < N) (hnN : n + N ≤ 40) (W : World) :
  Calls Tryz.prog 95 #[.int .u8 (op : Int), .string ⟨nm.toArray⟩, .int .i64 (n : Int), .int .i64 ((n : Int) + (N : Int) - 1), .func (.func 98) #[] #[]] W (NewB W (numF op nm n r N)) := by
 have HR := hid hr
 have hmm := fun (x : Int) => run_makeMap_hint (P := Tryz.prog) tMB tB tI .i64 x Tryz.underlying70
 unfold tMB at hmm
 have HH := hid (And.intro hop (And.intro hnm (And.intro hN0 hnN)))
 obtain ⟨lst, hlst⟩ : ∃ lst : Int, (n : Int) + (N : Int) - 1 = lst := ⟨_, rfl⟩
 rw [hlst]
 have HL := hid hlst
 obtain ⟨s, hs⟩ : ∃ s : ByteArray, (⟨nm.toArray⟩ : ByteArray) = s := ⟨_, rfl⟩
 rw [hs]
 have HS := hid hs
 have l0 : (0 : Int) ≤ lst := by omega
 have l1 : lst < 40 := by omega
 have n0 : (0 : Int) ≤ (n : Int) := by omega
 have n1 : (n : Int) < 40 := by omega
 clear hlst hs hr hop hnm hN0 hnN
 obtain ⟨W1, hW1⟩ : ∃ W1, W.alloc (.map #[] 0) = W1 := ⟨_, rfl⟩
 have hm1 := hid (hW1 ▸ MapB.made W : MapB W1 W.heap.size 0 fun _ => none)
 have hq1 := hid (hW1 ▸ (Below.refl _ W).alloc (Nat.le_refl _) _ : Below W.heap.size W W1)
 go_enter Tryz.func95, Tryz.ntmps95
 go_wp2_with fail
 go_loopw [0, 12] (fun o i wr => ∃ k : Nat, k ≤ N ∧ o = .int .u8 ((op : Int) + (k : Int)) ∧ i = .int .i64 ((n : Int) + (k : Int)) ∧ MapB wr W.heap.size k (numF op nm n r k) ∧ Below W.heap.size W wr ∧ W.heap.size < wr.heap.size) (fun _ i _ => 40 - (intOf i).toNat)
 case atStart => exact ⟨0, Nat.zero_le _, by simp, by simp, by rw [numF_zero]; exact hm1.out, hq1.out, hm1.out.lt⟩
 case round =>
  obtain ⟨k, hk, rfl, rfl, hm, hq, hlt⟩ := hrel
  have HM := hid hm
  have HQ := hid (And.intro hq hlt)
  clear hm hq hlt hm1 hq1 hW1
  by_cases hkN : k < N
  ·have c1 : (n : Int) + (k : Int) ≤ lst := by have := HL.out; omega
   have c2 : (0 : Int) ≤ (k : Int) := by omega
   have c3 : (op : Int) + (k : Int) + 1 ≤ 255 := by have := HH.out.1; omega
   have c4 : (0 : Int) ≤ (op : Int) := by omega
   obtain ⟨po, pu, ga, hrp⟩ : ∃ po pu ga, r (n + k) = (po, pu, ga) := ⟨_, _, _, rfl⟩
   have HC := hid (HR.out (n + k) (by have := HH.out.2.2.2; omega) wr)
   have HI := hid (itoa_any (n + k) (by have := HH.out.2.2.2; omega))
   rw [hrp] at HC
   unfold infV at HC
   simp only [Int.natCast_add] at HC HI
   have HP := hid hrp
   have hsz : ¬ 9223372036854775807 < s.size + (decL (n + k)).length := by
    have e1 : s.size = nm.length := by rw [← HS.out]; simp [ByteArray.size]
    have e2 : (decL (n + k)).length ≤ 2 := by unfold decL; split <;> simp
    have := HH.out.2.1
    omega
   have HK := hid hkN
   clear hkN hk hrp
   go_wp2_with (go_at_call 98; refine HC.out.mono ?_; rintro _ w1 ⟨rfl, q1⟩)
   obtain ⟨W2, hW2⟩ : ∃ W2, w1.alloc (.cells #[.string ⟨#[]⟩, .int .i64 (po : Int), .int .i64 (pu : Int), .int .i64 (ga : Int)] tI) = W2 := ⟨_, rfl⟩
   have q2 : Below w1.heap.size w1 W2 := hW2 ▸ (Below.refl _ w1).alloc (Nat.le_refl _) _
   have m2 : Has W2 w1.heap.size tI #[.string ⟨#[]⟩, .int .i64 (po : Int), .int .i64 (pu : Int), .int .i64 (ga : Int)] := hW2 ▸ Has.new _ _ _
   have q12 := q1.trans (q2.mono q1.size)
   have hm2 := HM.out.below q12 HQ.out.2
   have Q2 := hid (HQ.out.1.trans (q12.mono HQ.out.1.size))
   have HL1 := hid (show W.heap.size < w1.heap.size from Nat.lt_of_lt_of_le HQ.out.2 q1.size)
   have m3 := m2.set 0 (.string (s ++ ⟨(decL (n + k)).toArray⟩))
   have M2 := hid (show MapB (W2.setCell ⟨w1.heap.size, 0, none⟩ (.string (s ++ ⟨(decL (n + k)).toArray⟩))) W.heap.size k (numF op nm n r k) from hm2.below (b := w1.heap.size) ((Below.refl _ W2).setCell (p := ⟨w1.heap.size, 0, none⟩) (Nat.le_refl _) _) HL1.out)
   have Q3 := hid (Q2.out.setCell (p := ⟨w1.heap.size, 0, none⟩) (Nat.le_of_lt HL1.out) (.string (s ++ ⟨(decL (n + k)).toArray⟩)))
   have L3 := hid (show W.heap.size < (W2.setCell ⟨w1.heap.size, 0, none⟩ (.string (s ++ ⟨(decL (n + k)).toArray⟩))).heap.size from M2.out.lt)
   unfold tI at hW2
   rw [hW2]
   have a0 := m2.cell 0 _ rfl
   have af := m2.frozen 0
   obtain ⟨bc0, bc1, bc2, bc3⟩ := Go.Proofs.YtnkhmgmganejmaaGreatDoor.c4 m3
   clear q1 q2 m2 m3 q12 hm2 hW2
   have HX := hid (show Value.agg #[.string (s ++ ⟨(decL (n + k)).toArray⟩), .int .i64 (po : Int), .int .i64 (pu : Int), .int .i64 (ga : Int)] = infV (nm ++ decL (n + k), r (n + k)) by rw [HP.out, ← HS.out]; unfold infV; rw [catB])
   refine (HI.out _).mono ?_
   rintro _ w3 ⟨rfl, rfl⟩
   go_wp2_with (refine wpList_putMB _ rfl _ _ _ (.inl rfl) _ _ _ rfl M2.out (by have := HH.out.2.2.2; have := HK.out; omega) (op + k) (nm ++ decL (n + k), r (n + k)) (by simp only [Int.natCast_add]; rfl) (by have := HH.out.1; have := HK.out; omega) (HX.out) ?_; intro w4 h4 g4)
   case roundEnd =>
    have hg := HQ.out
    rw [numF_succ] at h4
    have hb4 := Q3.out.grown g4 (Nat.le_of_lt L3.out) (fun j e => by cases e; exact Nat.le_refl _)
    refine ⟨⟨k + 1, by have := HK.out; omega, congrArg (Value.int .u8) (by simp; omega), congrArg (Value.int .i64) (by simp; omega), h4, hb4, Nat.lt_of_lt_of_le L3.out g4.size⟩, ?_⟩
    simp only [intOf]
    omega
  ·obtain rfl : k = N := by omega
   have c1 : ¬ ((n : Int) + (k : Int) ≤ lst) := by have := HL.out; omega
   have c2 : (0 : Int) ≤ (k : Int) := by omega
   clear hkN hk
   go_wp2_with fail
   go_ret
   exact ⟨_, k, rfl, by have := HH.out.2.2.2; omega, HM.out, Nat.le_refl _, HQ.out.1⟩
theorem numbered_row3 (r : Nat → Nat × Nat × Nat) (hr : RuleOk 99 r) (op : Nat) (nm : List UInt8) (n N : Nat) (hop : op + N < 256) (hnm : nm.length ≤ 5) (hN0 : 0 < N) (hnN : n + N ≤ 40) (W : World) :
  Calls Tryz.prog 95 #[.int .u8 (op : Int), .string ⟨nm.toArray⟩, .int .i64 (n : Int), .int .i64 ((n : Int) + (N : Int) - 1), .func (.func 99) #[] #[]] W (NewB W (numF op nm n r N)) := by
 have HR := hid hr
 have hmm := fun (x : Int) => run_makeMap_hint (P := Tryz.prog) tMB tB tI .i64 x Tryz.underlying70
 unfold tMB at hmm
 have HH := hid (And.intro hop (And.intro hnm (And.intro hN0 hnN)))
 obtain ⟨lst, hlst⟩ : ∃ lst : Int, (n : Int) + (N : Int) - 1 = lst := ⟨_, rfl⟩
 rw [hlst]
 have HL := hid hlst
 obtain ⟨s, hs⟩ : ∃ s : ByteArray, (⟨nm.toArray⟩ : ByteArray) = s := ⟨_, rfl⟩
 rw [hs]
 have HS := hid hs
 have l0 : (0 : Int) ≤ lst := by omega
 have l1 : lst < 40 := by omega
 have n0 : (0 : Int) ≤ (n : Int) := by omega
 have n1 : (n : Int) < 40 := by omega
 clear hlst hs hr hop hnm hN0 hnN
 obtain ⟨W1, hW1⟩ : ∃ W1, W.alloc (.map #[] 0) = W1 := ⟨_, rfl⟩
 have hm1 := hid (hW1 ▸ MapB.made W : MapB W1 W.heap.size 0 fun _ => none)
 have hq1 := hid (hW1 ▸ (Below.refl _ W).alloc (Nat.le_refl _) _ : Below W.heap.size W W1)
 go_enter Tryz.func95, Tryz.ntmps95
 go_wp2_with fail
 go_loopw [0, 12] (fun o i wr => ∃ k : Nat, k ≤ N ∧ o = .int .u8 ((op : Int) + (k : Int)) ∧ i = .int .i64 ((n : Int) + (k : Int)) ∧ MapB wr W.heap.size k (numF op nm n r k) ∧ Below W.heap.size W wr ∧ W.heap.size < wr.heap.size) (fun _ i _ => 40 - (intOf i).toNat)
 case atStart => exact ⟨0, Nat.zero_le _, by simp, by simp, by rw [numF_zero]; exact hm1.out, hq1.out, hm1.out.lt⟩
 case round =>
  obtain ⟨k, hk, rfl, rfl, hm, hq, hlt⟩ := hrel
  have HM := hid hm
  have HQ := hid (And.intro hq hlt)
  clear hm hq hlt hm1 hq1 hW1
  by_cases hkN : k < N
  ·have c1 : (n : Int) + (k : Int) ≤ lst := by have := HL.out; omega
   have c2 : (0 : Int) ≤ (k : Int) := by omega
   have c3 : (op : Int) + (k : Int) + 1 ≤ 255 := by have := HH.out.1; omega
   have c4 : (0 : Int) ≤ (op : Int) := by omega
   obtain ⟨po, pu, ga, hrp⟩ : ∃ po pu ga, r (n + k) = (po, pu, ga) := ⟨_, _, _, rfl⟩
   have HC := hid (HR.out (n + k) (by have := HH.out.2.2.2; omega) wr)
   have HI := hid (itoa_any (n + k) (by have := HH.out.2.2.2; omega))
   rw [hrp] at HC
   unfold infV at HC
   simp only [Int.natCast_add] at HC HI
   have HP := hid hrp
   have hsz : ¬ 9223372036854775807 < s.size + (decL (n + k)).length := by
    have e1 : s.size = nm.length := by rw [← HS.out]; simp [ByteArray.size]
    have e2 : (decL (n + k)).length ≤ 2 := by unfold decL; split <;> simp
    have := HH.out.2.1
    omega
   have HK := hid hkN
   clear hkN hk hrp
   go_wp2_with (go_at_call 99; refine HC.out.mono ?_; rintro _ w1 ⟨rfl, q1⟩)
   obtain ⟨W2, hW2⟩ : ∃ W2, w1.alloc (.cells #[.string ⟨#[]⟩, .int .i64 (po : Int), .int .i64 (pu : Int), .int .i64 (ga : Int)] tI) = W2 := ⟨_, rfl⟩
   have q2 : Below w1.heap.size w1 W2 := hW2 ▸ (Below.refl _ w1).alloc (Nat.le_refl _) _
   have m2 : Has W2 w1.heap.size tI #[.string ⟨#[]⟩, .int .i64 (po : Int), .int .i64 (pu : Int), .int .i64 (ga : Int)] := hW2 ▸ Has.new _ _ _
   have q12 := q1.trans (q2.mono q1.size)
   have hm2 := HM.out.below q12 HQ.out.2
   have Q2 := hid (HQ.out.1.trans (q12.mono HQ.out.1.size))
   have HL1 := hid (show W.heap.size < w1.heap.size from Nat.lt_of_lt_of_le HQ.out.2 q1.size)
   have m3 := m2.set 0 (.string (s ++ ⟨(decL (n + k)).toArray⟩))
   have M2 := hid (show MapB (W2.setCell ⟨w1.heap.size, 0, none⟩ (.string (s ++ ⟨(decL (n + k)).toArray⟩))) W.heap.size k (numF op nm n r k) from hm2.below (b := w1.heap.size) ((Below.refl _ W2).setCell (p := ⟨w1.heap.size, 0, none⟩) (Nat.le_refl _) _) HL1.out)
   have Q3 := hid (Q2.out.setCell (p := ⟨w1.heap.size, 0, none⟩) (Nat.le_of_lt HL1.out) (.string (s ++ ⟨(decL (n + k)).toArray⟩)))
   have L3 := hid (show W.heap.size < (W2.setCell ⟨w1.heap.size, 0, none⟩ (.string (s ++ ⟨(decL (n + k)).toArray⟩))).heap.size from M2.out.lt)
   unfold tI at hW2
   rw [hW2]
   have a0 := m2.cell 0 _ rfl
   have af := m2.frozen 0
   obtain ⟨bc0, bc1, bc2, bc3⟩ := Go.Proofs.YtnkhmgmganejmaaGreatDoor.c4 m3
   clear q1 q2 m2 m3 q12 hm2 hW2
   have HX := hid (show Value.agg #[.string (s ++ ⟨(decL (n + k)).toArray⟩), .int .i64 (po : Int), .int .i64 (pu : Int), .int .i64 (ga : Int)] = infV (nm ++ decL (n + k), r (n + k)) by rw [HP.out, ← HS.out]; unfold infV; rw [catB])
   refine (HI.out _).mono ?_
   rintro _ w3 ⟨rfl, rfl⟩
   go_wp2_with (refine wpList_putMB _ rfl _ _ _ (.inl rfl) _ _ _ rfl M2.out (by have := HH.out.2.2.2; have := HK.out; omega) (op + k) (nm ++ decL (n + k), r (n + k)) (by simp only [Int.natCast_add]; rfl) (by have := HH.out.1; have := HK.out; omega) (HX.out) ?_; intro w4 h4 g4)
   case roundEnd =>
    have hg := HQ.out
    rw [numF_succ] at h4
    have hb4 := Q3.out.grown g4 (Nat.le_of_lt L3.out) (fun j e => by cases e; exact Nat.le_refl _)
    refine ⟨⟨k + 1, by have := HK.out; omega, congrArg (Value.int .u8) (by simp; omega), congrArg (Value.int .i64) (by simp; omega), h4, hb4, Nat.lt_of_lt_of_le L3.out g4.size⟩, ?_⟩
    simp only [intOf]
    omega
  ·obtain rfl : k = N := by omega
   have c1 : ¬ ((n : Int) + (k : Int) ≤ lst) := by have := HL.out; omega
   have c2 : (0 : Int) ≤ (k : Int) := by omega
   clear hkN hk
   go_wp2_with fail
   go_ret
   exact ⟨_, k, rfl, by have := HH.out.2.2.2; omega, HM.out, Nat.le_refl _, HQ.out.1⟩
end
end Go.Proofs.YtnkhmgmganejmaaGreatDoor
