/- Part. -/
import Derived.Test.YthcmfadofogfaaaDoorG09
import Derived.Test.YthcmfadofogfaaaDoorG05
import Derived.Test.YthcmfadofogfaaaDoorRows
import Derived.ProofKit
import Derived.LaidMore
import Derived.OpenShut
import Derived.Stop.Joined
import Derived.ChangeSame
import Derived.Below
import Derived.Deep.Slices
import Derived.ReadAgain
import Derived.Carry
import Derived.Test.YthcmfadofogfaaaDoorG03
set_option maxRecDepth 100000
set_option maxHeartbeats 16000000
namespace Go.Proofs.YthcmfadofogfaaaDoor
section
open Go Go.RowKit Go.Maps Go.Shelf
attribute [local go_sem] Oper.semAt_some Grows wide_fn
theorem lines_mk (W : World) (s : ByteArray) : Calls Tryd.prog 41 #[.string s] W fun e w' => e = .returned (.func (.func 63) #[] #[.pointer (some ⟨W.heap.size, 0, none⟩)]) ∧ w' = W.alloc (.cells #[.string s] tSt) := by
 go_enter Tryd.func41, Tryd.ntmps41
 go_wp2
 go_ret
 exact ⟨rfl, rfl⟩
theorem MapS.later {w w' : World} {B n : Nat} {f : List UInt8 → Option Nat} (h : MapS w B n f) (hb : Below w.heap.size w w') : MapS w' B n f := h.below hb h.lt
structure PB (b d S : Nat) (v : Value) (k : Nat) (rest : List UInt8) (X : World) : Prop where
 h2 : Has X b tSt #[.string ⟨#[]⟩]
 h3 : Has X (b + 1) 39 #[.int .i64 0]
 h4 : Has X (b + 2) 3 #[.int .i64 0]
 h5 : Has X d tMS #[.map (some S)]
 h6 : Has X (d + 1) 55 #[v]
 h7 : Has X (d + 2) 3 #[.int .i64 (k : Int)]
 h8 : Has X (d + 3) tSt #[.string ⟨rest.toArray⟩]
 hS : MapS X S 256 opOf
theorem MapS.same {X Y : World} {S n : Nat} {f : List UInt8 → Option Nat} (h : MapS X S n f) (hk : Y.heap[S]? = X.heap[S]?) : MapS Y S n f := by
 obtain ⟨D, ⟨es, clock, h1, h3⟩, h2⟩ := h
 exact ⟨D, ⟨es, clock, hk.trans h1, h3⟩, h2⟩
theorem PB.same {b d S k : Nat} {v : Value} {rest : List UInt8} {X Y : World} (h : PB b d S v k rest X) (hb : b + 2 < d) (hS : S < d) (hk : ∀ i, i < d + 4 → Y.heap[i]? = X.heap[i]?) : PB b d S v k rest Y :=
 ⟨(hk b (by omega)).trans h.h2, (hk (b + 1) (by omega)).trans h.h3, (hk (b + 2) (by omega)).trans h.h4, (hk d (by omega)).trans h.h5, (hk (d + 1) (by omega)).trans h.h6, (hk (d + 2) (by omega)).trans h.h7, (hk (d + 3) (by omega)).trans h.h8, h.hS.same (hk S (by omega))⟩
theorem PB.rest {b d S k : Nat} {v : Value} {rest rest' : List UInt8} {X : World} (h : PB b d S v k rest X) (hb : b + 2 < d) (hS : S < d) : PB b d S v k rest' (X.setCell ⟨d + 3, 0, none⟩ (.string ⟨rest'.toArray⟩)) :=
 ⟨h.h2.other (by show b ≠ d + 3; omega) _, h.h3.other (by show b + 1 ≠ d + 3; omega) _, h.h4.other (by show b + 2 ≠ d + 3; omega) _, h.h5.other (by show d ≠ d + 3; omega) _, h.h6.other (by show d + 1 ≠ d + 3; omega) _, h.h7.other (by show d + 2 ≠ d + 3; omega) _, h.h8.set 0 _, h.hS.same (Below.heap_setCell X ⟨d + 3, 0, none⟩ _ S (by show S ≠ d + 3; omega))⟩
theorem PB.code {b d S k : Nat} {v v' : Value} {rest : List UInt8} {X : World} (h : PB b d S v k rest X) (hb : b + 2 < d) (hS : S < d) : PB b d S v' k rest (X.setCell ⟨d + 1, 0, none⟩ v') :=
 ⟨h.h2.other (by show b ≠ d + 1; omega) _, h.h3.other (by show b + 1 ≠ d + 1; omega) _, h.h4.other (by show b + 2 ≠ d + 1; omega) _, h.h5.other (by show d ≠ d + 1; omega) _, h.h6.set 0 _, h.h7.other (by show d + 2 ≠ d + 1; omega) _, h.h8.other (by show d + 3 ≠ d + 1; omega) _, h.hS.same (Below.heap_setCell X ⟨d + 1, 0, none⟩ _ S (by show S ≠ d + 1; omega))⟩
theorem PB.next {b d S k k' : Nat} {v : Value} {rest : List UInt8} {X : World} (h : PB b d S v k rest X) (hb : b + 2 < d) (hS : S < d) : PB b d S v k' rest (X.setCell ⟨d + 2, 0, none⟩ (.int .i64 (k' : Int))) :=
 ⟨h.h2.other (by show b ≠ d + 2; omega) _, h.h3.other (by show b + 1 ≠ d + 2; omega) _, h.h4.other (by show b + 2 ≠ d + 2; omega) _, h.h5.other (by show d ≠ d + 2; omega) _, h.h6.other (by show d + 1 ≠ d + 2; omega) _, h.h7.set 0 _, h.h8.other (by show d + 3 ≠ d + 2; omega) _, h.hS.same (Below.heap_setCell X ⟨d + 2, 0, none⟩ _ S (by show S ≠ d + 2; omega))⟩
def PxSt (W : World) (b d S B0 : Nat) (t : List UInt8) (k : Nat) (X : World) : Prop :=
 ∃ a n m acc, PB b d S (.slice a n m) k (itL k t) X ∧ X.ownsRow B0 tB 1 (.slice a n m) acc.length (Lib.byteCells acc) ∧ parseL t = parseF ((linesL t).drop k) k acc ∧ acc.length ≤ 33 * k ∧ Below b W X ∧ B0 ≤ X.heap.size
def PxEx (W : World) (b : Nat) (t : List UInt8) (X : World) : Prop :=
 ∃ e k : Nat, parseL t = .inl (e, k) ∧ Has X b tSt #[.string ⟨#[]⟩] ∧ Has X (b + 1) 39 #[.int .i64 (e : Int)] ∧ Has X (b + 2) 3 #[.int .i64 (k : Int)] ∧ Below b W X
theorem row_same {w w' : World} {base n : Nat} {v : Value} {xs : List Value} (h : w.ownsRow base tB 1 v n xs) (hk : ∀ g, base ≤ g → (∃ cs t fz, w.heap[g]? = some (.cells cs t fz)) → w'.heap[g]? = w.heap[g]?) : w'.ownsRow base tB 1 v n xs := by
 refine ⟨h.1, h.2.imp id ?_⟩
 rintro ⟨g, cap, cur, e1, e2, e3, e4⟩
 exact ⟨g, cap, cur, e1, e2, (hk g e2 ⟨_, _, _, e3⟩).trans e3, e4⟩
theorem PxSt.own {W : World} {b d S B0 : Nat} {t : List UInt8} (hb : b + 2 < d) (hS : S < d) (hB : B0 = d + 5) : OwnFrom B0 (fun k X => PxSt W b d S B0 t k X) := by
 rintro k X Y row ⟨a, n, m, acc, h1, h2, h3, h4, h5, h6⟩ hg hr
 have hk : ∀ i o, X.heap[i]? = some o → (i < B0 ∨ o.isCells = true) → Y.heap[i]? = X.heap[i]? := fun i o hi hc => hg.block i (Array.getElem?_eq_some_iff.1 hi).1 (fun e => by
  obtain ⟨r1, o', ho, hc'⟩ := hr i e.symm
  rcases hc with hc | hc
  ·omega
  ·rw [hi] at ho; cases ho; rw [hc] at hc'; cases hc')
 refine ⟨a, n, m, acc, h1.same hb hS (fun i hi => ?_), row_same h2 (fun g _ ⟨cs, tt, fz, e⟩ => hk g _ e (.inr rfl)), h3, h4, h5.grown hg (by omega) (fun r e => ?_), Nat.le_trans h6 hg.size⟩
 ·exact hk i _ (Array.getElem?_eq_getElem (by omega)) (.inl (by omega))
 ·have := (hr r e).1; omega
theorem PxSt.sj {W : World} {b d S B0 : Nat} {t : List UInt8} (hb : b + 2 < d) (hS : S < d) (hB : B0 = d + 5) {k : Nat} {A X : World} (h : PxSt W b d S B0 t k A) (hj : SjB (d + 4) A X) : PxSt W b d S B0 t k X := by
 obtain ⟨a, n, m, acc, h1, h2, h3, h4, h5, h6⟩ := h
 obtain ⟨hg, _⟩ := hj
 have hk : ∀ i, i < A.heap.size → i ≠ d + 4 → X.heap[i]? = A.heap[i]? := fun i hi hne => hg.block i hi (fun e => hne (Option.some.inj e))
 exact ⟨a, n, m, acc, h1.same hb hS (fun i hi => hk i (by omega) (by omega)), row_same h2 (fun g hg' ⟨cs, tt, fz, e⟩ => hk g (Array.getElem?_eq_some_iff.1 e).1 (by omega)), h3, h4, h5.grown hg (by omega) (fun r e => by have := Option.some.inj e; omega), Nat.le_trans h6 hg.size⟩
theorem PxEx.own {W : World} {b n : Nat} {t : List UInt8} {X Y : World} {row : Option Nat} (h : PxEx W b t X) (hn : b + 2 < n) (hg : X.grownBy Y row) (hr : ∀ r, row = some r → n ≤ r) : PxEx W b t Y := by
 obtain ⟨e, k, h1, h2, h3, h4, h5⟩ := h
 have hk : ∀ i, i < X.heap.size → i < n → Y.heap[i]? = X.heap[i]? := fun i hi hin => hg.block i hi (fun e => by have := hr i e.symm; omega)
 exact ⟨e, k, h1, (hk b h2.lt (by omega)).trans h2, (hk (b + 1) h3.lt (by omega)).trans h3, (hk (b + 2) h4.lt (by omega)).trans h4, h5.grown hg (Nat.le_of_lt h2.lt) (fun r e => by have := hr r e; omega)⟩
theorem trim_chomp (l : List UInt8) : Lib.trimSuffix l [10] = chompL l := by
 unfold Lib.trimSuffix chompL Lib.hasSuffix
 by_cases h : l.getLast? = some 10
 ·rw [if_pos h]
  obtain ⟨r, rfl⟩ : ∃ r, l = r ++ [10] := by
   obtain ⟨r, hr⟩ := List.getLast?_eq_some_iff.1 h
   exact ⟨r, hr⟩
  rw [if_pos (by rw [List.isSuffixOf_iff_suffix]; exact ⟨r, rfl⟩)]
  simp
 ·rw [if_neg h, if_neg]
  intro hc
  rw [List.isSuffixOf_iff_suffix] at hc
  obtain ⟨r, hr⟩ := hc
  exact h (by rw [← hr]; simp)
theorem chompL_len (l : List UInt8) : (chompL l).length ≤ l.length := by
 unfold chompL
 split
 ·simp
 ·omega
def UEx (b : Nat) (e k : Int) (Y : World) (f : Nat → Bool) (_g : Nat → Value) (y : World) : Prop :=
 (∀ i, i < Y.heap.size → i ≠ b → i ≠ b + 1 → i ≠ b + 2 → y.heap[i]? = Y.heap[i]?) ∧ Has y b tSt #[.string ⟨#[]⟩] ∧ Has y (b + 1) 39 (cellsIf (f 3) #[.int .i64 e] #[.int .i64 0]) ∧ Has y (b + 2) 3 (cellsIf (f 4) #[.int .i64 k] #[.int .i64 0]) ∧ Below b Y y
theorem readL_err {l : List UInt8} {last : Bool} {e : Nat} (h : readL l last = .inl e) : e = 3 ∨ e = 42 := by
 unfold readL at h
 split at h
 ·cases h; exact .inr rfl
 ·split at h
  ·split at h
   ·cases h; exact .inl rfl
   ·cases h
  ·split at h
   ·cases h; exact .inl rfl
   ·split at h
    ·cases h; exact .inl rfl
    ·cases h
theorem readL_len {l : List UInt8} {last : Bool} {x : List UInt8} (h : readL l last = .inr x) : x.length ≤ 33 := by
 unfold readL at h
 split at h
 ·cases h
 ·rename_i op _
  have hp := pushN_le op
  split at h
  ·split at h
   ·cases h
   ·cases h; simp
  ·split at h
   ·cases h
   ·rename_i y hy
    have := unhexL_len hy
    split at h
    ·cases h
    ·cases h; simp; omega
theorem Has.putK {X : World} {B D : Nat} {t : TypeId} {cs : Array Value} {o : Obj} (h : Has X B t cs) (hne : B ≠ D) : Has (X.putObj D o) B t cs := (World.putObj_heap_other hne).trans h
theorem results_three {fn : Func} {p q r : Tmp} {tmps : Array Value} {W : World} {B : Nat} {x y z : Value} (h : fn.results = #[ResultVar.cell p tSt, ResultVar.cell q 39, ResultVar.cell r 3]) (h1 : tmps.getD p undef = .pointer (some ⟨B, 0, none⟩)) (h2 : tmps.getD q undef = .pointer (some ⟨B + 1, 0, none⟩)) (h3 : tmps.getD r undef = .pointer (some ⟨B + 1 + 1, 0, none⟩))
  (e1 : Has W B tSt #[x]) (e2 : Has W (B + 1) 39 #[y]) (e3 : Has W (B + 2) 3 #[z]) : (results fn tmps).run Tryd.prog W = .ok (.tuple #[x, y, z]) W := by
 have c1 := e1.cell 0 _ rfl
 have c2 := e2.cell 0 _ rfl
 have c3 : W.cell? ⟨B + 1 + 1, 0, none⟩ = some z := e3.cell 0 _ rfl
 simp at h1 h2 h3
 simp [results, h, h1, h2, h3, go_sem, c1, c2, c3]
theorem parse_code (W : World) (s : ByteArray) (hs : s.size ≤ 100000) : Calls Tryd.prog 21 #[.string s] W fun e w' => e = .returned (parsedV s.data.toList) ∧ Below W.heap.size W w' := by
 refine (callsIn_wide (n := 6)).1 ?_
 obtain ⟨t, ht⟩ : ∃ t, s.data.toList = t := ⟨_, rfl⟩
 have htl : t.length = s.size := by rw [← ht, Array.length_toList]; rfl
 have hst' : s = ⟨t.toArray⟩ := by apply ByteArray.ext; apply Array.ext'; simpa using ht
 rw [ht]
 obtain ⟨V1, hV1⟩ : ∃ V1, W.alloc (.cells #[.string ⟨#[]⟩] 9) = V1 := ⟨_, rfl⟩
 obtain ⟨V2, hV2⟩ : ∃ V2, V1.alloc (.cells #[.int .i64 0] 39) = V2 := ⟨_, rfl⟩
 obtain ⟨W1, hW1⟩ : ∃ W1, V2.alloc (.cells #[.int .i64 0] 3) = W1 := ⟨_, rfl⟩
 obtain ⟨b, hb⟩ : ∃ b, W.heap.size = b := ⟨_, rfl⟩
 have z1 : V1.heap.size = b + 1 := by rw [← hV1, ← hb]; simp
 have z2 : V2.heap.size = b + 2 := by rw [← hV2]; simp [z1]
 have z3 : W1.heap.size = b + 3 := by rw [← hW1]; simp [z2]
 have p1 : Below b W V1 := hV1 ▸ (Below.refl _ W).alloc (by omega) _
 have p2 : Below (b + 1) V1 V2 := hV2 ▸ (Below.refl _ V1).alloc (by omega) _
 have p3 : Below (b + 2) V2 W1 := hW1 ▸ (Below.refl _ V2).alloc (by omega) _
 have m2 : Has V1 b tSt #[.string ⟨#[]⟩] := hb ▸ hV1 ▸ Has.new _ _ _
 have m3 : Has V2 (b + 1) 39 #[.int .i64 0] := z1 ▸ hV2 ▸ Has.new _ _ _
 have m4 : Has W1 (b + 2) 3 #[.int .i64 0] := z2 ▸ hW1 ▸ Has.new _ _ _
 have HM := hid (And.intro ((m2.below p2 (by omega)).below p3 (by omega)) (And.intro (m3.below p3 (by omega)) (And.intro m4 (And.intro ((p1.trans (p2.mono (by omega))).trans (p3.mono (by omega))) z3))))
 have HS := hid hs
 have HT := hid (And.intro htl hst')
 have HV := hid (And.intro hV1 (And.intro hV2 (And.intro hW1 hb)))
 clear p1 p2 p3 m2 m3 m4 z1 z2 z3 hs htl hst' ht hV1 hV2 hW1 hb
 refine callsIn_of_wp_marks Tryd.func21 rfl trivial ?_ rfl
 simp only [Tryd.ntmps21, List.size_toArray, List.length_cons, List.length_nil, Nat.reduceAdd, Nat.reduceSub, Array.replicate_succ, Array.replicate_zero, List.push_toArray, List.append_toArray, List.nil_append, List.cons_append]
 gi_wp2_with fail
 refine (callsIn_free free_wide (titles_any _)).mono ?_
 rintro _ w2 ⟨S, rfl, hm, hSw, q2⟩
 rw [HV.out.1, HV.out.2.1, HV.out.2.2.1] at hSw q2
 obtain ⟨d, hd⟩ : ∃ d, w2.heap.size = d := ⟨_, rfl⟩
 obtain ⟨V5, hV5⟩ : ∃ V, w2.alloc (.cells #[.map (some S)] 73) = V := ⟨_, rfl⟩
 obtain ⟨V6, hV6⟩ : ∃ V, V5.alloc (.cells #[.slice none 0 0] 55) = V := ⟨_, rfl⟩
 obtain ⟨V7, hV7⟩ : ∃ V, V6.alloc (.cells #[.int .i64 0] 3) = V := ⟨_, rfl⟩
 obtain ⟨V8, hV8⟩ : ∃ V, V7.alloc (.cells #[.string s] 9) = V := ⟨_, rfl⟩
 obtain ⟨V9, hV9⟩ : ∃ V, V8.alloc (.cells #[.string s] tSt) = V := ⟨_, rfl⟩
 have z5 : V5.heap.size = d + 1 := by rw [← hV5, ← hd]; simp
 have z6 : V6.heap.size = d + 2 := by rw [← hV6]; simp [z5]
 have z7 : V7.heap.size = d + 3 := by rw [← hV7]; simp [z6]
 have z8 : V8.heap.size = d + 4 := by rw [← hV8]; simp [z7]
 have z9 : V9.heap.size = d + 5 := by rw [← hV9]; simp [z8]
 have r5 : Below d w2 V5 := hV5 ▸ (Below.refl _ w2).alloc (by omega) _
 have r6 : Below (d + 1) V5 V6 := hV6 ▸ (Below.refl _ V5).alloc (by omega) _
 have r7 : Below (d + 2) V6 V7 := hV7 ▸ (Below.refl _ V6).alloc (by omega) _
 have r8 : Below (d + 3) V7 V8 := hV8 ▸ (Below.refl _ V7).alloc (by omega) _
 have r9 : Below (d + 4) V8 V9 := hV9 ▸ (Below.refl _ V8).alloc (by omega) _
 have m5 : Has V5 d tMS #[.map (some S)] := hd ▸ hV5 ▸ Has.new _ _ _
 have m6 : Has V6 (d + 1) 55 #[.slice none 0 0] := z5 ▸ hV6 ▸ Has.new _ _ _
 have m7 : Has V7 (d + 2) 3 #[.int .i64 0] := z6 ▸ hV7 ▸ Has.new _ _ _
 have m8 : Has V8 (d + 3) tSt #[.string s] := z7 ▸ hV8 ▸ Has.new _ _ _
 have m9 : Has V9 (d + 4) tSt #[.string s] := z8 ▸ hV9 ▸ Has.new _ _ _
 have r59 : Below d w2 V9 := ((((r5.trans (r6.mono (by omega))).trans (r7.mono (by omega))).trans (r8.mono (by omega))).trans (r9.mono (by omega)))
 have hSd : S < d := hd ▸ hm.lt
 have hSb : b + 3 ≤ S := by have := HM.out.2.2.2.2; omega
 have hq2 : Below (b + 3) W1 w2 := by have := HM.out.2.2.2.2; rw [this] at q2; exact q2
 have hbd : b + 2 < d := by omega
 have hPB : PB b d S (.slice none 0 0) 0 t V9 := ⟨((HM.out.1.below hq2 (by omega)).below r59 (by omega)), ((HM.out.2.1.below hq2 (by omega)).below r59 (by omega)), ((HM.out.2.2.1.below hq2 (by omega)).below r59 (by omega)),
  (((m5.below r6 (by omega)).below r7 (by omega)).below r8 (by omega)).below r9 (by omega), ((m6.below r7 (by omega)).below r8 (by omega)).below r9 (by omega), (m7.below r8 (by omega)).below r9 (by omega), by rw [← HT.out.2]; exact m8.below r9 (by omega), hm.below r59 hSd⟩
 have hBW : Below b W V9 := (HM.out.2.2.2.1.trans (hq2.mono (by omega))).trans (r59.mono (by omega))
 have HST0 := hid (show PxSt W b d S (d + 5) t 0 V9 from ⟨none, 0, 0, [], hPB, World.ownsRow_nil _ _ _ _, rfl, by simp, hBW, by omega⟩)
 have HO := hid (And.intro hbd (And.intro hSd (And.intro hSb z9)))
 have HLM := hid (lines_mk V8 s)
 rw [hV9, z8] at HLM
 have HSEQ := hid (lines_seq 5 (by omega) (d + 4) t (by rw [HT.out.1]; exact Nat.le_trans HS.out (by decide)) V9 (by rw [← HT.out.2]; exact m9))
 have HV2 := hid (And.intro hV5 (And.intro hV6 (And.intro hV7 (And.intro hV8 hd))))
 clear z5 z6 z7 z8 z9 hV5 hV6 hV7 hV8 hd r5 r6 r7 r8 r9 m5 m6 m7 m8 m9 r59 hSd hSb hq2 hbd hPB hBW hm hSw q2 hV9
 gi_wp2_with fail
 rw [HV2.out.1, HV2.out.2.1, HV2.out.2.2.1, HV2.out.2.2.2.1, HV2.out.2.2.2.2, HV.out.2.2.2]
 refine (callsIn_free free_wide HLM.out).mono ?_
 rintro _ w5 ⟨rfl, hw⟩
 rw [hw]
 clear hw w5 HLM
 gi_wp2_with fail
 have z9 := HO.out.2.2.2
 have hb2 := HO.out.1
 have hS2 := HO.out.2.1
 refine wpIn_rangeFunc_C rfl (by omega) (gf := 63) (lb := #[.pointer (some ⟨d + 4, 0, none⟩)]) rfl trivial (enters_of Tryd.func63 (by kernel_rfl) rfl)
  HSEQ.out (fun A X h b' o ho hc => by
   obtain ⟨hg, cs, tt, fz, hcs⟩ := h
   refine (hg.block b' (Array.getElem?_eq_some_iff.1 ho).1 (fun e => ?_)).trans ho
   rw [Option.some.inj e, hcs] at ho
   cases ho
   cases hc) KeepsAt.trans (fun X l o o' hl h1 h2 h3 => KeepsAt.b (w := V9) (by simp; omega) X l o o' hl h1 h2 h3) (fun k args X _ hE => by rw [hE]; rfl)
  (fun k X => PxSt W b d S (d + 5) t k X) (fun c _ X => c = .ret ∧ PxEx W b t X) (by rw [z9]; exact PxSt.own hb2 hS2 rfl)
  (fun c k X Y row hs hg hr => ⟨hs.1, hs.2.own (n := V9.heap.size) (by omega) hg (fun r e => (hr r e).1)⟩)
  (fun k A X hs hj => hs.sj hb2 hS2 rfl hj) (fun c k A X hs hj => ⟨hs.1, hs.2.own (n := d + 4) (by omega) hj.1 (fun r e => by have := Option.some.inj e; omega)⟩) HST0.out
  (fun k a' _ => a' = { tmps := #[.string s, undef, .pointer (some ⟨b, 0, none⟩), .pointer (some ⟨b + 1, 0, none⟩), .pointer (some ⟨b + 1 + 1, 0, none⟩), .pointer (some ⟨d, 0, none⟩), .pointer (some ⟨d + 1, 0, none⟩), .pointer (some ⟨d + 1 + 1, 0, none⟩), .pointer (some ⟨d + 1 + 1 + 1, 0, none⟩), .string ⟨(nthL t k).toArray⟩, undef, undef, .map (some S), .string s, .string s, .func (.func 63) #[] #[.pointer (some ⟨d + 4, 0, none⟩)], .string ⟨(nthL t k).toArray⟩, undef, undef, undef, undef, undef, undef, undef, undef, undef, undef, undef, undef, undef, undef, undef, undef, undef, undef, undef, undef, undef, undef, undef, undef], defers := [] }) (fun k a' _ X Y row hs hg hr => hs) ?assign ?body ?done ?stop
 case assign =>
  intro l k args X K hl hkN hst hE hK
  subst hE
  have HK := hid (hK _ _ (KeepsFrom.refl _ _) (KeepsAt.refl _ _) hst rfl)
  clear hK hst
  gi_wp2_with fail
  exact HK.out
 case body =>
  rintro l k a' X hl hlo hkN ⟨a, n, m, acc, hP, hrow, hparse, hacc, hbel, hsz⟩ rfl
  have hmx : Tryd.prog.follows .mixedOrders = true := by kernel_rfl
  have hcat := itL_cat t k
  have hRl := itL_le t k
  have hdrop := lines_drop t hkN
  have hnil := lines_drop_nil t (show k + 1 ≤ numL t by omega)
  rw [hdrop] at hparse
  unfold parseF at hparse
  rw [hnil] at hparse
  obtain ⟨L, hL⟩ : ∃ L, nthL t k = L := ⟨_, rfl⟩
  obtain ⟨R, hR⟩ : ∃ R, itL k t = R := ⟨_, rfl⟩
  obtain ⟨R2, hR2⟩ : ∃ R2, itL (k + 1) t = R2 := ⟨_, rfl⟩
  rw [hL, hR, hR2] at hcat
  rw [hR] at hP hRl
  rw [hL, hR2] at hparse
  obtain ⟨last, hlast⟩ : ∃ last, (R2 == []) = last := ⟨_, rfl⟩
  rw [hlast] at hparse
  obtain ⟨lb, hlb⟩ : ∃ x : ByteArray, (⟨L.toArray⟩ : ByteArray) = x := ⟨_, rfl⟩
  obtain ⟨rb, hrb⟩ : ∃ x : ByteArray, (⟨R.toArray⟩ : ByteArray) = x := ⟨_, rfl⟩
  obtain ⟨rb2, hrb2⟩ : ∃ x : ByteArray, (⟨R2.toArray⟩ : ByteArray) = x := ⟨_, rfl⟩
  obtain ⟨cb, hcb⟩ : ∃ x : ByteArray, (⟨(chompL L).toArray⟩ : ByteArray) = x := ⟨_, rfl⟩
  have hls : lb.size = L.length := by rw [← hlb]; simp [ByteArray.size]
  have hrs : rb.size = R.length := by rw [← hrb]; simp [ByteArray.size]
  have hll : L.length + R2.length = R.length := by rw [← hcat]; simp
  have hx : rb.extract lb.size rb.size = rb2 := by
   rw [extract_eq, hls, hrs, ← hrb2, ← hrb]
   show ByteArray.mk (List.take (R.length - L.length) (List.drop L.length R)).toArray = _
   rw [← hcat, List.drop_left, List.take_of_length_le (by simp)]
  have hle : rb2.toList.isEmpty = last := by
   rw [← hlast, ByteArray.toList_eq, ← hrb2]
   cases R2 <;> rfl
  have htr := trimSuffix_any lb ⟨#[10]⟩
  have e10 : (⟨#[10]⟩ : ByteArray).data.toList = [10] := rfl
  have elb : lb.data.toList = L := by rw [← hlb]
  rw [e10, elb, trim_chomp, hcb] at htr
  have hlen : L.length ≤ 100000 := by have := HT.out.1; have := HS.out; omega
  have T1 : Ret Tryd.prog 43 #[.string lb, .string ⟨#[10]⟩] (.string cb) := Ret.of_same (fun w => (htr w (by rw [hls]; omega)).mono fun e w' ⟨h1, h2⟩ => ⟨h1, h2.symm⟩)
  have ecb : cb.data.toList = chompL L := by rw [← hcb]
  have hcs : cb.size ≤ 1000000 := by
   have h1 := chompL_len L
   have h2 : cb.size = (chompL L).length := by rw [← hcb]; simp [ByteArray.size]
   omega
  have hP1 := hP.rest (rest' := R2) hb2 hS2
  rw [hrb2] at hP1
  obtain ⟨X1, hX1⟩ : ∃ X1, X.setCell ⟨d + 3, 0, none⟩ (.string rb2) = X1 := ⟨_, rfl⟩
  have hp8 := hP1.h8
  rw [hX1] at hP1 hp8
  rw [hrb2] at hp8
  have R0 : ∀ x : Ext X1, Calls Tryd.prog 42 #[.map (some S), .string cb, .bool last] x.w fun e w'' => e = .returned (readV (readL (chompL L) last)) ∧ ∃ y : Ext X1, w'' = y.w := fun x => by
   have h := read_any x.w S (hP1.hS.later x.below) cb hcs last
   rw [ecb] at h
   exact h.mono fun e w' ⟨he, hb⟩ => ⟨he, ⟨w', x.2.trans (hb.mono x.2.size)⟩, rfl⟩
  have K5 := fun x : Ext X1 => (x.below.cell (p := ⟨d, 0, none⟩) hP1.h5.lt).trans (hP1.h5.cell 0 _ rfl)
  have K8 := fun x : Ext X1 => (x.below.cell (p := ⟨d + 1 + 1 + 1, 0, none⟩) hp8.lt).trans (hp8.cell 0 _ rfl)
  have hX1' : X.setCell ⟨d + 1 + 1 + 1, 0, none⟩ (.string rb2) = X1 := hX1
  have c8 : X.cell? ⟨d + 1 + 1 + 1, 0, none⟩ = some (.string rb) := by rw [← hrb]; exact hP.h8.cell 0 _ rfl
  have f8 : X.frozen? ⟨d + 1 + 1 + 1, 0, none⟩ = false := hP.h8.frozen 0
  have l0 : (0 : Int) ≤ (lb.size : Int) := by omega
  have l1 : (lb.size : Int) ≤ (rb.size : Int) := by omega
  have hrowX1 : X1.ownsRow (d + 5) tB 1 (.slice a n m) acc.length (Lib.byteCells acc) := row_same hrow (fun g hg _ => by rw [← hX1]; exact Below.heap_setCell X ⟨d + 3, 0, none⟩ _ g (by show g ≠ d + 3; omega))
  have hbelX1 : Below b W X1 := by rw [← hX1]; exact hbel.setCell (p := ⟨d + 3, 0, none⟩) (by show b ≤ d + 3; omega) _
  have hszX1 : d + 5 ≤ X1.heap.size := by rw [← hX1]; simpa using hsz
  have hXX1 : ∀ i, i ≠ d + 3 → X1.heap[i]? = X.heap[i]? := fun i hi => by rw [← hX1]; exact Below.heap_setCell X ⟨d + 3, 0, none⟩ _ i hi
  have HX := hid (And.intro hP (And.intro hP1 (And.intro hrowX1 (And.intro hbelX1 (And.intro hszX1 (And.intro hXX1 hsz))))))
  have HPA := hid hacc
  have HK := hid (And.intro hkN hlo)
  have HR2 := hid (And.intro hR2 hrb2)
  have HK5 := hid K5
  have HK8 := hid K8
  have HTS := hid T1
  rw [hL, hlb]
  cases hrd : readL (chompL L) last with
  | inl e =>
   rw [hrd] at hparse R0
   unfold readV at R0
   have hE := readL_err hrd
   have HPE := hid (show parseL t = .inl (e, k) from hparse)
   have HR0 := hid R0
   have e0 : ¬ (e : Int) = 0 := by omega
   clear hP hP1 hrowX1 hbelX1 hszX1 hXX1 hsz hacc hkN hlo hR2 hrb2 K5 K8 T1 R0 hparse hE hrd hcat hRl hdrop hnil hL hR hlast hlb hrb hcb hll htr e10 elb hlen ecb hcs hp8 hrow hbel hX1 hls hrs
   gi_wp2_with fail
   have k5 := HK5.out
   have k8 := HK8.out
   have T1 := HTS.out
   have R0 := HR0.out
   refine wpIn_region_quietF (C := Grows X1) (free_round l) hmx (by kernel_rfl) (by kernel_rfl) (grows_refl X1) ?_
   repeat (go_big_quiet_step (first | (with_reducible exact Ret.at T1 _) | (with_reducible exact R0 _)))
   refine wpQuiet_nil ?_
   rintro _ ⟨x, rfl⟩
   have c7' : x.w.cell? ⟨d + 1 + 1, 0, none⟩ = some (.int .i64 (k : Int)) := (x.below.cell (p := ⟨d + 1 + 1, 0, none⟩) HX.out.2.1.h7.lt).trans (HX.out.2.1.h7.cell 0 _ rfl)
   have HY := hid (And.intro (HX.out.2.1.h2.later x.below) (And.intro (HX.out.2.1.h3.later x.below) (And.intro (HX.out.2.1.h4.later x.below) (And.intro (HX.out.2.1.h7.later x.below) (And.intro (HX.out.2.2.2.1.trans (x.below.mono (by have := HX.out.2.2.2.2.1; have := HO.out.1; omega))) (And.intro x.below (HX.out.2.1.h7.lt)))))))
   generalize x.w = Y at *
   clear k5 k8 T1 R0 HK5 HK8 HTS HR0 x HPA
   gi_wp2_with fail
   refine wpIn_region_ghost (free_round l) (c := [some (.int .i64 (e : Int)), some (.int .i64 (k : Int)), none, none, none]) (deps := [[], [], [], [0, 2], [0, 1, 2, 3]]) (U := UEx b (e : Int) (k : Int) Y) hmx (by kernel_rfl) (by kernel_rfl)
    (fun f g y y' ⟨u1, u2, u3, u4, u5⟩ hb => ⟨fun i h1 h2 h3 h4 => (hb.block i (Nat.lt_of_lt_of_le h1 u5.size)).trans (u1 i h1 h2 h3 h4), u2.later hb, u3.later hb, u4.later hb, u5.trans (hb.mono (Nat.le_of_lt u2.lt))⟩)
    (fun f f' g g' y h ⟨u1, u2, u3, u4, u5⟩ => ⟨u1, u2, by rw [← (h 3 rfl).1]; exact u3, by rw [← (h 4 rfl).1]; exact u4, u5⟩)
    ⟨fun _ _ _ _ _ => rfl, HY.out.1, HY.out.2.1, HY.out.2.2.1, (Below.refl _ Y).drew⟩ ?_
   rintro f g y hU0 _
   have hU := hid hU0
   have y7 : y.cell? ⟨d + 1 + 1, 0, none⟩ = some (.int .i64 (k : Int)) := by
    have h1 := HY.out.2.2.2.1
    have h2 : Has y (d + 2) 3 #[.int .i64 (k : Int)] := (hU0.1 (d + 2) h1.lt (by have := HO.out.1; omega) (by have := HO.out.1; omega) (by have := HO.out.1; omega)).trans h1
    exact h2.cell 0 _ rfl
   have y2 := hU0.2.1.cell 0 _ rfl
   have yf2 := hU0.2.1.frozen 0
   clear hU0
   refine GW.known _ rfl (fun hd hf => ?_) ?_
   ·go_wp2
    exact ⟨rfl, rfl, Below.refl _ _⟩
   simp only [Act.put, sT, sS, sZ]
   refine GW.known _ rfl (fun hd hf => ?_) ?_
   ·go_wp2
    exact ⟨rfl, rfl, Below.refl _ _⟩
   simp only [Act.put, sT, sS, sZ]
   refine GW.open rfl (fun hd hf => ?_) ?_
   ·have K := hid (show UEx b (e : Int) (k : Int) Y (upd f 2 true) (upd g 2 undef) (y.setCell ⟨b, 0, none⟩ (.string ⟨#[]⟩)) from ⟨fun i h1 h2 h3 h4 => (Below.heap_setCell y ⟨b, 0, none⟩ _ i h2).trans (hU.out.1 i h1 h2 h3 h4), hU.out.2.1.set 0 _, hU.out.2.2.1.other (by show b + 1 ≠ b; omega) _, hU.out.2.2.2.1.other (by show b + 2 ≠ b; omega) _, hU.out.2.2.2.2.setCell (p := ⟨b, 0, none⟩) (Nat.le_refl _) _⟩)
    go_wp2
    exact ⟨rfl, K.out⟩
   simp only [Act.put]
   refine GW.open rfl (fun hd hf => ?_) ?_
   ·have u3 := hU.out.2.2.1
    rw [hf, cellsIf_false] at u3
    have y3 := u3.cell 0 _ rfl
    have yf3 := u3.frozen 0
    have K := hid (show UEx b (e : Int) (k : Int) Y (upd f 3 true) (upd g 3 undef) (y.setCell ⟨b + 1, 0, none⟩ (.int .i64 (e : Int))) from ⟨fun i h1 h2 h3 h4 => (Below.heap_setCell y ⟨b + 1, 0, none⟩ _ i h3).trans (hU.out.1 i h1 h2 h3 h4), hU.out.2.1.other (by show b ≠ b + 1; omega) _, by rw [upd_self, cellsIf_true]; exact u3.set 0 _, hU.out.2.2.2.1.other (by show b + 2 ≠ b + 1; omega) _, hU.out.2.2.2.2.setCell (p := ⟨b + 1, 0, none⟩) (by show b ≤ b + 1; omega) _⟩)
    clear u3
    go_wp2
    exact ⟨rfl, K.out⟩
   simp only [Act.put]
   refine GW.open rfl (fun hd hf => ?_) ?_
   ·have u4 := hU.out.2.2.2.1
    rw [hf, cellsIf_false] at u4
    have y4 : y.cell? ⟨b + 1 + 1, 0, none⟩ = some (.int .i64 0) := u4.cell 0 _ rfl
    have yf4 : y.frozen? ⟨b + 1 + 1, 0, none⟩ = false := u4.frozen 0
    have K := hid (show UEx b (e : Int) (k : Int) Y (upd f 4 true) (upd g 4 undef) (y.setCell ⟨b + 1 + 1, 0, none⟩ (.int .i64 (k : Int))) from ⟨fun i h1 h2 h3 h4 => (Below.heap_setCell y ⟨b + 2, 0, none⟩ _ i h4).trans (hU.out.1 i h1 h2 h3 h4), hU.out.2.1.other (by show b ≠ b + 2; omega) _, hU.out.2.2.1.other (by show b + 1 ≠ b + 2; omega) _, by rw [upd_self, cellsIf_true]; exact u4.set 0 _, hU.out.2.2.2.2.setCell (p := ⟨b + 2, 0, none⟩) (by show b ≤ b + 2; omega) _⟩)
    clear u4
    go_wp2
    exact ⟨rfl, K.out⟩
   simp only [Act.put]
   refine GW.nil (fun hall => ?_)
   have hUo := hU.out
   unfold UEx at hUo
   rw [hall 3 (by decide), hall 4 (by decide), cellsIf_true, cellsIf_true] at hUo
   have HU2 := hid hUo
   clear hUo hU y2 y7 yf2
   gi_wp2_with fail
   have hXY : ∀ i o, X.heap[i]? = some o → i ≠ d + 3 → Y.heap[i]? = some o := fun i o ho hi => by
    have h1 := (HX.out.2.2.2.2.2.1 i hi).trans ho
    exact (HY.out.2.2.2.2.2.1.block i (Array.getElem?_eq_some_iff.1 h1).1).trans h1
   have hz9 := HO.out.2.2.2
   have hbd2 := HO.out.1
   refine ⟨⟨?_, fun i o hi ho hc => ?_⟩, rfl, e, k, HPE.out, HU2.out.2.1, HU2.out.2.2.1, HU2.out.2.2.2.1, HY.out.2.2.2.2.1.trans HU2.out.2.2.2.2⟩
   ·refine Nat.le_trans (Nat.le_trans ?_ HY.out.2.2.2.2.2.1.size) HU2.out.2.2.2.2.size
    by_cases hlt : X.heap.size ≤ X1.heap.size
    ·exact hlt
    ·exfalso
     have h1 := HX.out.2.2.2.2.2.1 X1.heap.size (by have := HX.out.2.2.2.2.1; omega)
     rw [Array.getElem?_eq_none (Nat.le_refl _), Array.getElem?_eq_getElem (by omega)] at h1
     cases h1
   ·have h1 := hXY i o ho (by omega)
    exact (HU2.out.1 i (Array.getElem?_eq_some_iff.1 h1).1 (by omega) (by omega) (by omega)).trans h1
  | inr tx =>
   rw [hrd] at hparse R0
   simp only [readV] at R0
   have htx := readL_len hrd
   have HPE := hid (show parseL t = parseF ((linesL t).drop (k + 1)) (k + 1) (acc ++ tx) from hparse)
   have HR0 := hid R0
   have HTX := hid htx
   obtain ⟨tb, htb⟩ : ∃ tb : ByteArray, (⟨tx.toArray⟩ : ByteArray) = tb := ⟨_, rfl⟩
   have htd : tb.data.toList = tx := by rw [← htb]
   have hts : tb.size = tx.length := by rw [← htb]; simp [ByteArray.size]
   rw [htb] at HR0
   have HTB := hid (And.intro htd hts)
   have hkl : k ≤ 100000 := by have := numL_le t; have := HT.out.1; have := HS.out; omega
   have HKL := hid hkl
   have k0 : (0 : Int) ≤ (k : Int) := by omega
   have k1 : (k : Int) + 1 ≤ 9223372036854775807 := by omega
   clear hP hP1 hrowX1 hbelX1 hszX1 hXX1 hsz hacc hkN hlo hR2 hrb2 K5 K8 T1 R0 hparse hrd hcat hRl hdrop hnil hL hR hlast hlb hrb hcb hll htr e10 elb hlen ecb hcs hp8 hrow hbel hX1 hls hrs htx htb htd hts hkl
   gi_wp2_with fail
   have k5 := HK5.out
   have k8 := HK8.out
   have T1 := HTS.out
   have R0 := HR0.out
   refine wpIn_region_quietF (C := Grows X1) (free_round l) hmx (by kernel_rfl) (by kernel_rfl) (grows_refl X1) ?_
   repeat (go_big_quiet_step (first | (with_reducible exact Ret.at T1 _) | (with_reducible exact R0 _)))
   refine wpQuiet_nil ?_
   rintro _ ⟨x, rfl⟩
   have hPY : PB b d S (.slice a n m) k R2 x.w := HX.out.2.1.same hb2 hS2 (fun i hi => x.below.block i (by have := HX.out.2.2.2.2.1; omega))
   have hrY : x.w.ownsRow (d + 5) tB 1 (.slice a n m) acc.length (Lib.byteCells acc) := row_later HX.out.2.2.1 x.below
   obtain ⟨i0, hi, hz0, hz1, hz2⟩ := info_parts infoB8
   obtain ⟨v', w4, hr, hown, hgrow, _⟩ := Lib.run_append_own_string (P := Tryd.prog) x.w (d + 5) 55 9 55 tB i0 Tryd.underlying55 Tryd.underlying9 hi hz0 hz1 hz2 (.slice a n m) acc.length _ hrY tb (by have h1 := HTB.out.2; have h2 := HTX.out; have h3 := HPA.out; have h4 := HKL.out; unfold maxLen; omega) (by have h1 := HTB.out.2; have h2 := HTX.out; have h3 := HPA.out; have h4 := HKL.out; omega) (Nat.le_trans HX.out.2.2.2.2.1 x.below.size)
   obtain ⟨a2, n2, m2, rfl⟩ : ∃ a n m, v' = .slice a n m := by
    rcases hown.2 with ⟨h, _⟩ | ⟨g, cap, cur, h, _⟩
    ·exact ⟨_, _, _, h⟩
    ·exact ⟨_, _, _, h⟩
   have hlo5 : ∀ i, i < d + 5 → w4.heap[i]? = x.w.heap[i]? := fun i hi5 => by
    by_cases hlt : i < x.w.heap.size
    ·exact hgrow.block i hlt (fun e => by have := (hrY.lt i e.symm).1; omega)
    ·exfalso; have := HX.out.2.2.2.2.1; have := x.below.size; omega
   have hP4 : PB b d S (.slice a n m) k R2 w4 := hPY.same hb2 hS2 (fun i hi => hlo5 i (by omega))
   have hown2 : w4.ownsRow (d + 5) tB 1 (.slice a2 n2 m2) (acc ++ tx).length (Lib.byteCells (acc ++ tx)) := by
    rw [Lib.byteCells_append, List.length_append, ← HTB.out.2]
    have e1 : Lib.strCells tb = Lib.byteCells tx := by rw [Lib.strCells_eq, HTB.out.1]
    rw [← e1]
    exact hown
   have c6 : x.w.cell? ⟨d + 1, 0, none⟩ = some (.slice a n m) := hPY.h6.cell 0 _ rfl
   have c6' : w4.cell? ⟨d + 1, 0, none⟩ = some (.slice a n m) := hP4.h6.cell 0 _ rfl
   have f6' : w4.frozen? ⟨d + 1, 0, none⟩ = false := hP4.h6.frozen 0
   have hP5 : PB b d S (.slice a2 n2 m2) k R2 (w4.setCell ⟨d + 1, 0, none⟩ (.slice a2 n2 m2)) := hP4.code hb2 hS2
   have c7 : (w4.setCell ⟨d + 1, 0, none⟩ (.slice a2 n2 m2)).cell? ⟨d + 1 + 1, 0, none⟩ = some (.int .i64 (k : Int)) := hP5.h7.cell 0 _ rfl
   have f7 : (w4.setCell ⟨d + 1, 0, none⟩ (.slice a2 n2 m2)).frozen? ⟨d + 1 + 1, 0, none⟩ = false := hP5.h7.frozen 0
   obtain ⟨w5, hw5⟩ : ∃ w5, w4.setCell ⟨d + 1, 0, none⟩ (.slice a2 n2 m2) = w5 := ⟨_, rfl⟩
   rw [hw5] at hP5 c7 f7
   have hP6 : PB b d S (.slice a2 n2 m2) (k + 1) R2 (w5.setCell ⟨d + 2, 0, none⟩ (.int .i64 ((k + 1 : Nat) : Int))) := hP5.next hb2 hS2
   have HF := hid (And.intro hP6 (And.intro hown2 (And.intro hgrow (And.intro x.below (And.intro hrY hw5)))))
   generalize x.w = Y at *
   clear k5 k8 T1 R0 HK5 HK8 HTS HR0 x hPY hrY hi hz0 hz1 hz2 hown hown2 hlo5 hP4 hP5 hP6 hgrow
   gi_wp2_with (gi_at_builtin; refine wpListIn_append_runB rfl (.tmp 34) (.tmp 35) _ _ rfl _ _ _ rfl rfl hr ?_)
   obtain ⟨hP6, hown2, hgrow, hxb, hrY, hw5'⟩ := HF.out
   have hz9 := HO.out.2.2.2
   have hbd2 := HO.out.1
   have hZ : ∀ i, i ≠ d + 1 → i ≠ d + 2 → (w5.setCell ⟨d + 2, 0, none⟩ (.int .i64 ((k + 1 : Nat) : Int))).heap[i]? = w4.heap[i]? := fun i h1 h2 => (Below.heap_setCell w5 ⟨d + 2, 0, none⟩ _ i h2).trans (by rw [← hw5']; exact Below.heap_setCell w4 ⟨d + 1, 0, none⟩ _ i h1)
   have hzs : w4.heap.size ≤ (w5.setCell ⟨d + 2, 0, none⟩ (.int .i64 ((k + 1 : Nat) : Int))).heap.size := by rw [← hw5']; simp
   have hXX1s : X.heap.size ≤ X1.heap.size := by
    by_cases hlt : X.heap.size ≤ X1.heap.size
    ·exact hlt
    ·exfalso
     have h1 := HX.out.2.2.2.2.2.1 X1.heap.size (by have := HX.out.2.2.2.2.1; omega)
     rw [Array.getElem?_eq_none (Nat.le_refl _), Array.getElem?_eq_getElem (by omega)] at h1
     cases h1
   have hkeep : ∀ i o, X.heap[i]? = some o → i ≠ d + 1 → i ≠ d + 2 → i ≠ d + 3 → (i < d + 5 ∨ o.isCells = false) → (w5.setCell ⟨d + 2, 0, none⟩ (.int .i64 ((k + 1 : Nat) : Int))).heap[i]? = some o := fun i o ho h1 h2 h3 hc => by
    have g1 := (HX.out.2.2.2.2.2.1 i h3).trans ho
    have g2 := (hxb.block i (Array.getElem?_eq_some_iff.1 g1).1).trans g1
    rw [hZ i h1 h2]
    refine (hgrow.block i (Array.getElem?_eq_some_iff.1 g2).1 (fun e => ?_)).trans g2
    have hl := (hrY.lt i e.symm).1
    rcases hc with hc | hc
    ·omega
    ·rcases hrY.2 with ⟨e1, _⟩ | ⟨g, cap, cur, e1, e2, e3, e4⟩
     ·rw [e1] at e; simp [Value.ownBlock] at e
     ·rw [e1] at e
      simp only [Value.ownBlock, Option.some.injEq] at e
      subst e
      rw [e3] at g2
      cases g2
      cases hc
   refine ⟨⟨?_, fun i o hi ho hc => hkeep i o ho (by omega) (by omega) (by omega) (.inr hc)⟩, fun q hq => ?_, a2, n2, m2, acc ++ tx, ?_, ?_, HPE.out, ?_, ?_, ?_⟩
   ·exact Nat.le_trans (Nat.le_trans hXX1s hxb.size) (Nat.le_trans hgrow.size hzs)
   ·obtain rfl : q = d + 4 := by simpa using hq
    have hlt : d + 4 < X.heap.size := by have := HX.out.2.2.2.2.2.2; omega
    rw [Array.getElem?_eq_getElem hlt]
    exact hkeep (d + 4) _ (Array.getElem?_eq_getElem hlt) (by omega) (by omega) (by omega) (.inl (by omega))
   ·rw [HR2.out.1]
    exact hP6
   ·exact row_same hown2 (fun g hg _ => hZ g (by omega) (by omega))
   ·have h1 := HPA.out
    have h2 := HTX.out
    simp only [List.length_append]
    omega
   ·have hb4 : Below b W w4 := (HX.out.2.2.2.1.trans (hxb.mono (by have := HX.out.2.2.2.2.1; omega))).grown hgrow (by have := HX.out.2.2.2.2.1; have := hxb.size; omega) (fun r e => by have := (hrY.lt r e).1; omega)
    rw [← hw5']
    exact (hb4.setCell (p := ⟨d + 1, 0, none⟩) (by show b ≤ d + 1; omega) _).setCell (p := ⟨d + 2, 0, none⟩) (by show b ≤ d + 2; omega) _
   ·exact Nat.le_trans (Nat.le_trans HX.out.2.2.2.2.1 hxb.size) (Nat.le_trans hgrow.size hzs)
 case done =>
  rintro D X hD ⟨a, n, m, acc, hP, hrow, hparse, hacc, hbel, hsz⟩ hK
  have hend : parseL t = .inr acc := by
   have h0 : (linesL t).drop (numL t) = [] := List.drop_of_length_le (Nat.le_refl _)
   rw [hparse, h0]
   rfl
  have hcv := conv_own hrow
  have c6 := hP.h6.cell 0 _ rfl
  have c2 := hP.h2.cell 0 _ rfl
  have c3 := hP.h3.cell 0 _ rfl
  have c4 : X.cell? ⟨b + 1 + 1, 0, none⟩ = some (.int .i64 0) := hP.h4.cell 0 _ rfl
  have f2 := hP.h2.frozen 0
  have f3 := hP.h3.frozen 0
  have f4 : X.frozen? ⟨b + 1 + 1, 0, none⟩ = false := hP.h4.frozen 0
  have HPD := hid (And.intro hP.h2 (And.intro hP.h3 (And.intro hP.h4 (And.intro hbel (And.intro hend hD)))))
  have HK := hid hK
  clear hP hrow hparse hacc hbel hsz hend hK hD
  gi_wp2_with fail
  have e2 := (((HPD.out.1.set 0 (.string ⟨acc.toArray⟩)).other (p := ⟨b + 1, 0, none⟩) (by show b ≠ b + 1; omega) (.int .i64 0)).other (p := ⟨b + 1 + 1, 0, none⟩) (by show b ≠ b + 1 + 1; omega) (.int .i64 0))
  have e3 := (((HPD.out.2.1.other (p := ⟨b, 0, none⟩) (by show b + 1 ≠ b; omega) (.string ⟨acc.toArray⟩)).set 0 (.int .i64 0)).other (p := ⟨b + 1 + 1, 0, none⟩) (by show b + 1 ≠ b + 1 + 1; omega) (.int .i64 0))
  have e4 := (((HPD.out.2.2.1.other (p := ⟨b, 0, none⟩) (by show b + 2 ≠ b; omega) (.string ⟨acc.toArray⟩)).other (p := ⟨b + 1, 0, none⟩) (by show b + 2 ≠ b + 1; omega) (.int .i64 0)).set 0 (.int .i64 0))
  have eb := (((HPD.out.2.2.2.1.setCell (p := ⟨b, 0, none⟩) (Nat.le_refl _) (.string ⟨acc.toArray⟩)).setCell (p := ⟨b + 1, 0, none⟩) (by show b ≤ b + 1; omega) (.int .i64 0)).setCell (p := ⟨b + 1 + 1, 0, none⟩) (by show b ≤ b + 1 + 1; omega) (.int .i64 0))
  have hz9 := HO.out.2.2.2
  have hbd2 := HO.out.1
  have hD9 := HPD.out.2.2.2.2.2
  have hK' : (((X.setCell ⟨b, 0, none⟩ (.string ⟨acc.toArray⟩)).setCell ⟨b + 1, 0, none⟩ (.int .i64 0)).setCell ⟨b + 1 + 1, 0, none⟩ (.int .i64 0)).heap[D]? = some (.deferred (some [])) := by
   rw [Below.heap_setCell _ ⟨b + 1 + 1, 0, none⟩ _ D (by show D ≠ b + 1 + 1; omega), Below.heap_setCell _ ⟨b + 1, 0, none⟩ _ D (by show D ≠ b + 1; omega), Below.heap_setCell _ ⟨b, 0, none⟩ _ D (by show D ≠ b; omega)]
   exact HK.out
  refine ⟨by simp, .inl ⟨_, _, rfl, run_takeDeferred hK', ?_⟩⟩
  refine ⟨_, results_three rfl rfl rfl rfl (e2.putK (by omega)) (e3.putK (by omega)) (e4.putK (by omega)), ?_, (by rw [HV.out.2.2.2]; exact eb.trans (below_putK (by omega)))⟩
  unfold parsedV
  rw [HPD.out.2.2.2.2.1]
 case stop =>
  rintro D cc k X hD hkn ⟨rfl, e, k', hpe, m2, m3, m4, hbel⟩ hK
  gi_wp2_with fail
  have hz9 := HO.out.2.2.2
  have hbd2 := HO.out.1
  refine ⟨by simp, .inl ⟨_, _, rfl, run_takeDeferred hK, ?_⟩⟩
  refine ⟨_, results_three rfl rfl rfl rfl (m2.putK (by omega)) (m3.putK (by omega)) (m4.putK (by omega)), ?_, (by rw [HV.out.2.2.2]; exact hbel.trans (below_putK (by omega)))⟩
  unfold parsedV
  rw [hpe]
end
section
open Go Go.RowKit
def RawAt (W : World) (v : Value) (zs : List (Int × Int)) : Prop :=
 ∃ a cap, v = .slice a zs.length cap ∧ zs.length ≤ cap ∧ cap ≤ 9223372036854775807 ∧ ∀ (i : Nat) (p : Int × Int), zs[i]? = some p → I64 p.1 ∧ I64 p.2 ∧ ∃ b, a = some b ∧ W.cell? (b.add (i * 2)) = some (.int .i64 p.1) ∧ W.cell? ((b.add (i * 2)).add 1) = some (.int .i64 p.2)
theorem RawAt.keep {W X : World} {v : Value} {zs : List (Int × Int)} (h : RawAt W v zs) (hk : ∀ (a : Addr) (u : Value), W.cell? a = some u → X.cell? a = some u) : RawAt X v zs := by
 obtain ⟨a, cap, h1, h2, h3, h4⟩ := h
 refine ⟨a, cap, h1, h2, h3, fun i p hp => ?_⟩
 obtain ⟨g1, g2, b, e, c0, c1⟩ := h4 i p hp
 exact ⟨g1, g2, b, e, hk _ _ c0, hk _ _ c1⟩
theorem cell_lt {W : World} {a : Addr} {u : Value} (h : W.cell? a = some u) : a.block < W.heap.size := by
 unfold World.cell? at h
 rcases Nat.lt_or_ge a.block W.heap.size with h' | h'
 ·exact h'
 ·rw [Array.getElem?_eq_none h'] at h
  cases h
theorem cell_below {W X : World} (hb : Below W.heap.size W X) (a : Addr) (u : Value) (h : W.cell? a = some u) : X.cell? a = some u := by
 exact (World.cell?_of_block (hb.block _ (cell_lt h))).trans h
theorem RawAt.later {W X : World} {v : Value} {zs : List (Int × Int)} (h : RawAt W v zs) (hb : Below W.heap.size W X) : RawAt X v zs := h.keep (cell_below hb)
end
section
open Go Go.ChangeShapes Go.WideShapes Go.ChangeAt Go.RowKit Go.Deep
theorem cellsI64 : Tryd.prog.cellsOf 3 = 1 := by kernel_rfl
theorem cellsPairI : Tryd.prog.cellsOf 56 = 2 := by kernel_rfl
theorem trod_pairI {H : Type} {enc : TypeId × Value → H} {P : Program} {w : World} {base : Nat} {spare : Nat → Bool} {held : Bool} {t e : TypeId} {fuel : Nat} {cs : List Value} {x : DataW H × List MemPlace} (ht : P.underlying t = some (.array 2 e)) (hce : P.cellsOf e = 1) (hcs : cs.length = 2)
  (h : DataW.trod enc P w base spare held fuel t cs = some x) :
  ∃ c0 c1 y0 y1 n, cs = [c0, c1] ∧ DataW.trod enc P w base spare held n e [c0] = some y0 ∧ DataW.trod enc P w base spare held n e [c1] = some y1 := by
 match cs, hcs with
 | [c0, c1], _ =>
  cases fuel with
  | zero => simp [DataW.trod] at h
  | succ n =>
   unfold DataW.trod at h
   rw [ht] at h
   have r2 : List.range 2 = [0, 1] := rfl
   simp [r2, hce] at h
   obtain ⟨_, h⟩ := h
   cases h0 : DataW.trod enc P w base spare held n e [c0] with
   | none => simp [h0] at h
   | some y0 =>
    cases h1 : DataW.trod enc P w base spare held n e [c1] with
    | none => simp [h0, h1] at h
    | some y1 => exact ⟨c0, c1, y0, y1, n, rfl, h0, h1⟩
theorem open_raw {H : Type} {enc : TypeId × Value → H} {W : World} {base b : Nat} {sp : Nat → Bool} {held : Bool} {v : Value} {d : DataW H} {ps : List MemPlace}
  (hval : Value.okWide Tryd.prog W .any base 22 v) (hd : DataW.Trod enc Tryd.prog W b sp held 22 v d ps) : ∃ zs, RawAt W v zs := by
 obtain ⟨a0, len, cap, rfl⟩ := okWide_slice Tryd.underlying22 hval
 obtain ⟨fuel, hf⟩ := hd
 rcases open_slice Tryd.underlying22 hf with ⟨hcs, _⟩ | ⟨a, len', cap', m, n, D, Pl, hcs, _, hl, hm, hmm, _, hi⟩
 ·simp [Value.cells] at hcs
  obtain ⟨rfl, rfl, rfl⟩ := hcs
  exact ⟨[], none, 0, rfl, by simp, by simp, fun i p hp => by simp at hp⟩
 ·simp [Value.cells] at hcs
  obtain ⟨rfl, rfl, rfl⟩ := hcs
  have hlm : len ≤ m := by rw [hmm]; split <;> omega
  have key : ∀ i, i < len → ∃ p : Int × Int, I64 p.1 ∧ I64 p.2 ∧ W.cell? (a.add (i * 2)) = some (.int .i64 p.1) ∧ W.cell? ((a.add (i * 2)).add 1) = some (.int .i64 p.2) := by
   intro i hil
   obtain ⟨cs', hc, ht⟩ := hi i (by omega)
   rw [cellsPairI] at hc
   obtain ⟨_, hcl, hat⟩ := World.cells?_some hc
   obtain ⟨c0, c1, y0, y1, n', rfl, t0, t1⟩ := trod_pairI Tryd.underlying56 cellsI64 hcl ht
   obtain ⟨x0, e0, rfl, w0⟩ := DataW.trod_int Tryd.underlying3 t0
   obtain ⟨x1, e1, rfl, w1⟩ := DataW.trod_int Tryd.underlying3 t1
   simp at e0 e1
   subst e0 e1
   have b0 := bounds_i64 w0
   have b1 := bounds_i64 w1
   refine ⟨(x0, x1), by unfold I64; omega, by unfold I64; omega, ?_, ?_⟩
   ·have := hat 0 (by simp)
    simpa [Addr.add] using this
   ·have := hat 1 (by simp)
    simpa using this
  have hch : ∃ f : Nat → Int × Int, ∀ i, i < len → I64 (f i).1 ∧ I64 (f i).2 ∧ W.cell? (a.add (i * 2)) = some (.int .i64 (f i).1) ∧ W.cell? ((a.add (i * 2)).add 1) = some (.int .i64 (f i).2) := by
   refine ⟨fun i => if h : i < len then Classical.choose (key i h) else (0, 0), fun i h => ?_⟩
   simp only [dif_pos h]
   exact Classical.choose_spec (key i h)
  obtain ⟨f, hf'⟩ := hch
  have hmax : maxLen ≤ 9223372036854775807 := by decide
  refine ⟨(List.range len).map f, some a, cap, by simp, by simpa using hl, by omega, fun i p hp => ?_⟩
  obtain ⟨hlt, he⟩ := List.getElem?_eq_some_iff.1 hp
  simp at hlt he
  subst he
  obtain ⟨g1, g2, g3, g4⟩ := hf' i hlt
  exact ⟨g1, g2, a, rfl, g3, g4⟩
theorem laidOutAll : laidOutB Tryd.prog = true := by kernel_rfl
theorem trodAll_below {H : Type} {enc : TypeId × Value → H} {W W' : World} (hb : Below W.heap.size W W') : ∀ {ts : List TypeId} {vs : List Value} {ds : List (DataW H)} {ps : List MemPlace},
  (∀ t ∈ ts, Tryd.prog.readableRec t = true ∧ t < Tryd.prog.types.size) → DataW.TrodAll enc Tryd.prog W 0 (fun _ => true) true ts vs ds ps → (∀ x ∈ ps, x.block < W.heap.size) →
  DataW.TrodAll enc Tryd.prog W' 0 (fun b => decide (b < W.heap.size)) true ts vs ds ps
 | [], [], [], _, _, h, _ => h
 | _ :: _, _ :: _, _ :: _, _, ht, ⟨p, q, h1, h2, e⟩, hs =>
  ⟨p, q, Below.trod laidOutAll (ht _ (List.mem_cons.2 (Or.inl rfl))).1 (ht _ (List.mem_cons.2 (Or.inl rfl))).2 h1 hb (fun x hx => hs x (by rw [e]; exact List.mem_append_left _ hx)),
   trodAll_below hb (fun t h => ht t (List.mem_cons.2 (Or.inr h))) h2 (fun x hx => hs x (by rw [e]; exact List.mem_append_right _ hx)), e⟩
theorem post_read {H : Type} {enc : TypeId × Value → H} {f : Func} {s : ChangeSpec} {W W' : World} {args : Array Value} {ds : List (DataW H)} {before : List MemPlace}
  (hW : DataW.Whole enc Tryd.prog f.params.toList s.vars false W args.toList ds [] before) (hvars : s.vars = []) (hft : f.resultTypes = #[4])
  (hfn : s.fn H ds = { results := [.lit (.bool true)], args := ds }) (hA : DataW.TrodAll enc Tryd.prog W 0 (fun _ => true) true f.params.toList args.toList ds before)
  (hts : (f.params.toList.all fun t => Tryd.prog.readableRec t && decide (t < Tryd.prog.types.size)) = true)
  (hb : Below W.heap.size W W') : s.post enc Tryd.prog f false true false false W args (.bool true) W' := by
 have e : (s.fn H (ds ++ [])) = { results := [.lit (.bool true)], args := ds } := by rw [List.append_nil]; exact hfn
 refine ⟨ds, [], before, [], before, [], hW, ?_, ?_, ?_, World.keptBut_mono (fun p hp => absurd hp (by simp)) (hb.frame (fun _ => False)), fun h => by cases h⟩
 ·rw [e, hft]
  exact trodAll_mk1 (shut_bool Tryd.underlying4 _)
 ·rw [e]
  exact trodAll_below hb (fun t ht => by
   have := List.all_eq_true.1 hts t ht
   simpa using this) hA (fun x hx => by simpa using hW.lt x hx)
 ·rw [e, hvars]
  rfl
def NumsAt (W : World) (v : Value) (zs : List Int) : Prop :=
 ∃ a cap, v = .slice a zs.length cap ∧ zs.length ≤ cap ∧ cap ≤ 9223372036854775807 ∧ ∀ (i : Nat) (p : Int), zs[i]? = some p → I64 p ∧ ∃ b : Addr, a = some b ∧ W.cell? (b.add i) = some (.int .i64 p)
theorem NumsAt.keep {W X : World} {v : Value} {zs : List Int} (h : NumsAt W v zs) (hk : ∀ (a : Addr) (u : Value), W.cell? a = some u → X.cell? a = some u) : NumsAt X v zs := by
 obtain ⟨a, cap, h1, h2, h3, h4⟩ := h
 refine ⟨a, cap, h1, h2, h3, fun i p hp => ?_⟩
 obtain ⟨g1, b, e, c0⟩ := h4 i p hp
 exact ⟨g1, b, e, hk _ _ c0⟩
theorem NumsAt.later {W X : World} {v : Value} {zs : List Int} (h : NumsAt W v zs) (hb : Below W.heap.size W X) : NumsAt X v zs := h.keep (cell_below hb)
theorem NumsAt.nil (W : World) : NumsAt W (.slice none 0 0) [] := ⟨none, 0, rfl, by simp, by omega, fun i p hp => by simp at hp⟩
theorem NumsAt.shape {W : World} {v : Value} {zs : List Int} (h : NumsAt W v zs) : ∃ a cap, v = .slice a zs.length cap ∧ zs.length ≤ cap ∧ cap ≤ 9223372036854775807 := by
 obtain ⟨a, cap, h1, h2, h3, _⟩ := h
 exact ⟨a, cap, h1, h2, h3⟩
theorem NumsAt.at {W : World} {a : Option Addr} {n cap : Nat} {zs : List Int} (h : NumsAt W (.slice a n cap) zs) {i : Nat} {p : Int} (hp : zs[i]? = some p) : I64 p ∧ ∃ b : Addr, a = some b ∧ W.cell? (b.add i) = some (.int .i64 p) := by
 obtain ⟨a', cap', h1, h2, h3, h4⟩ := h
 injection h1 with e1 e2 e3
 subst e1
 exact h4 i p hp
end
section
open Go Go.RowKit
attribute [local go_sem] Oper.semAt_some Grows wide_fn
def pickN (c m : Int) : Int := (if c < 0 then -(c + 1) else c) % m
theorem pickN_range (c m : Int) (hm : 0 < m) : 0 ≤ pickN c m ∧ pickN c m < m := by
 unfold pickN
 exact ⟨Int.emod_nonneg _ (by omega), Int.emod_lt_of_pos _ hm⟩
theorem pick_ret (c : Int) (hc : I64 c) (m : Int) (hm : 0 < m) (hm2 : m ≤ 4611686018427387903) : Ret Tryd.prog 11 #[.int .i64 c, .int .i64 m] (.int .i64 (pickN c m)) := by
 refine Ret.of_same fun w => ?_
 unfold I64 at hc
 unfold pickN
 by_cases h : c < 0
 ·rw [if_pos h]
  have h0 : (0 : Int) ≤ -(c + 1) := by omega
  have h1 : -(c + 1) < 9223372036854775808 := by omega
  have q0 := Int.emod_nonneg (-(c + 1)) (show m ≠ 0 by omega)
  have q1 := Int.emod_lt_of_pos (-(c + 1)) hm
  have e := Int.tmod_eq_emod_of_nonneg h0 (b := m)
  go_enter Tryd.func11, Tryd.ntmps11
  go_wp2
  go_ret
  exact ⟨rfl, rfl⟩
 ·rw [if_neg h]
  have q0 := Int.emod_nonneg c (show m ≠ 0 by omega)
  have q1 := Int.emod_lt_of_pos c hm
  have e := Int.tmod_eq_emod_of_nonneg (show 0 ≤ c by omega) (b := m)
  go_enter Tryd.func11, Tryd.ntmps11
  go_wp2
  go_ret
  exact ⟨rfl, rfl⟩
end
section
open Go Go.RowKit Go.Maps
attribute [local go_sem] Oper.semAt_some Grows wide_fn eq4
def intsL (l : List Nat) : List Int := l.map fun (n : Nat) => (n : Int)
theorem JRow.nums {w : World} {base : Nat} {a : Option Addr} {n m : Nat} {l : List Nat} (h : JRow w base (.slice a n m) l) (hl : ∀ x ∈ l, x < 9223372036854775808) : NumsAt w (.slice a n m) (intsL l) := by
 obtain ⟨h1, h2⟩ := h
 rcases h2 with ⟨e1, e2⟩ | ⟨g, cap, cur, e1, _, e3, e4, e5, e6, e7⟩
 ·have : l = [] := List.eq_nil_of_length_eq_zero e2
  subst this
  rw [e1]; exact NumsAt.nil w
 ·injection e1 with e1 en em
  subst e1 em
  refine ⟨_, m, by rw [en]; unfold intsL; rw [List.length_map], by unfold intsL; rw [List.length_map]; omega, by unfold maxLen at e5; omega, fun i p hp => ?_⟩
  unfold intsL at hp
  rw [List.getElem?_map] at hp
  obtain ⟨x, hx, rfl⟩ := Option.map_eq_some_iff.1 hp
  have hm := hl x (List.mem_of_getElem? hx)
  refine ⟨by unfold I64; omega, _, rfl, ?_⟩
  have hi : i < l.length := (List.getElem?_eq_some_iff.1 hx).1
  have hc : cur.toList[i]? = some (.int .i64 (x : Int)) := by
   have : (List.take (l.length * 1) cur.toList)[i]? = (intsV l)[i]? := by rw [e7]
   rw [List.getElem?_take, if_pos (by omega)] at this
   rw [this]; unfold intsV; rw [List.getElem?_map, hx]; rfl
  have := Has.cell (show Has w g 3 cur from e3) i (.int .i64 (x : Int)) (by rw [← Array.getElem?_toList]; exact hc)
  unfold Addr.add
  split
  ·rename_i h0; subst h0; exact this
  ·rw [Nat.zero_add]; exact this
theorem look_1 : lookV opI 1 = .tuple #[.agg #[.string ⟨#[65, 68, 68]⟩, .int .i64 2, .int .i64 1, .int .i64 3], .bool true] := by kernel_rfl
theorem look_12 : lookV opI 12 = .tuple #[.agg #[.string ⟨#[]⟩, .int .i64 0, .int .i64 0, .int .i64 0], .bool false] := by kernel_rfl
theorem jumps_0 : jumpsL (⟨#[96, 91, 91]⟩ : ByteArray).data.toList = [2] := by kernel_rfl
theorem parsed_1 : parsedV (⟨#[80, 85, 83, 72, 49, 32, 48, 120, 48, 53, 10, 74, 85, 77, 80, 68, 69, 83, 84, 10]⟩ : ByteArray).data.toList = .tuple #[.string ⟨#[96, 5, 91]⟩, .int .i64 0, .int .i64 0] := by kernel_rfl
theorem parsed_2 : parsedV (⟨#[65, 68, 68, 10, 65, 68, 68, 88, 10]⟩ : ByteArray).data.toList = .tuple #[.string ⟨#[]⟩, .int .i64 42, .int .i64 1] := by kernel_rfl
theorem parsed_3 : parsedV (⟨#[65, 68, 68, 32, 49]⟩ : ByteArray).data.toList = .tuple #[.string ⟨#[]⟩, .int .i64 3, .int .i64 0] := by kernel_rfl
theorem text_1 : (⟨(textL (⟨#[96, 5, 91]⟩ : ByteArray).data.toList).toArray⟩ : ByteArray) = ⟨#[80, 85, 83, 72, 49, 32, 48, 120, 48, 53, 10, 74, 85, 77, 80, 68, 69, 83, 84, 10]⟩ := by kernel_rfl
theorem push_1 : wv (pushW (⟨#[96, 5, 91]⟩ : ByteArray).data.toList 0 1) = .agg #[.int .u64 5, .int .u64 0, .int .u64 0, .int .u64 0] := by kernel_rfl
theorem of_5 : Ret Tryd.prog 24 #[.int .i64 5] (.agg #[.int .u64 5, .int .u64 0, .int .u64 0, .int .u64 0]) := (refOf_ret 5 (by unfold I64; omega)).of_eq rfl (wv_of ⟨by decide, by decide, by decide, by decide⟩)
theorem awake_any (W : World) : Calls Tryd.prog 9 #[] W fun e w' => e = .returned (.bool true) ∧ Below W.heap.size W w' := by
 have O5 := hid of_5
 go_enter Tryd.func9, Tryd.ntmps9
 go_wp2_with fail
 refine (info_any 1 (by decide) _).mono ?_
 rintro _ w1 ⟨rfl, q⟩
 have QQ := hid q
 clear q
 rw [look_1]
 obtain ⟨V1, hV1⟩ : ∃ V, w1.alloc (.cells #[.string ⟨#[65, 68, 68]⟩, .int .i64 2, .int .i64 1, .int .i64 3] 25) = V := ⟨_, rfl⟩
 have q := hV1 ▸ newA w1 (.cells #[.string ⟨#[65, 68, 68]⟩, .int .i64 2, .int .i64 1, .int .i64 3] 25)
 have hh : Has V1 w1.heap.size 25 #[.string ⟨#[65, 68, 68]⟩, .int .i64 2, .int .i64 1, .int .i64 3] := hV1 ▸ Has.new _ _ _
 have HV1 := hid hV1
 clear hV1
 replace QQ := hid (QQ.out.trans (q.mono QQ.out.size))
 clear q
 have N1 := hid hh
 clear hh
 go_wp2_with fail
 rw [HV1.out]
 refine (info_any 12 (by decide) _).mono ?_
 rintro _ w2 ⟨rfl, q⟩
 replace N1 := hid (N1.out.later q)
 replace QQ := hid (QQ.out.trans (q.mono QQ.out.size))
 clear q
 rw [look_12]
 obtain ⟨V2, hV2⟩ : ∃ V, w2.alloc (.cells #[.string ⟨#[]⟩, .int .i64 0, .int .i64 0, .int .i64 0] 25) = V := ⟨_, rfl⟩
 have q := hV2 ▸ newA w2 (.cells #[.string ⟨#[]⟩, .int .i64 0, .int .i64 0, .int .i64 0] 25)
 have hh : Has V2 w2.heap.size 25 #[.string ⟨#[]⟩, .int .i64 0, .int .i64 0, .int .i64 0] := hV2 ▸ Has.new _ _ _
 have HV2 := hid hV2
 clear hV2
 replace N1 := hid (N1.out.later q)
 replace QQ := hid (QQ.out.trans (q.mono QQ.out.size))
 clear q
 have N2 := hid hh
 clear hh
 go_wp2_with fail
 rw [HV2.out]
 refine (jumps_code _ _ (by decide)).mono ?_
 rintro _ w3 ⟨⟨ja, jn, jm, rfl, hj⟩, q⟩
 replace N1 := hid (N1.out.later q)
 replace N2 := hid (N2.out.later q)
 replace QQ := hid (QQ.out.trans (q.mono QQ.out.size))
 clear q
 rw [jumps_0] at hj
 have hj' := hj.nums (by decide)
 obtain ⟨ja', jn', e, _, _⟩ := hj'.shape
 injection e with e0 e _
 subst e0
 rw [show (intsL [2]).length = 1 from rfl] at e
 subst e
 clear hj
 have HJ := hid hj'
 clear hj'
 go_wp2_with fail
 refine (parse_code _ _ (by decide)).mono ?_
 rintro _ w4 ⟨rfl, q⟩
 replace N1 := hid (N1.out.later q)
 replace N2 := hid (N2.out.later q)
 replace HJ := hid (HJ.out.later q)
 replace QQ := hid (QQ.out.trans (q.mono QQ.out.size))
 clear q
 rw [parsed_1]
 go_wp2_with fail
 refine (parse_code _ _ (by decide)).mono ?_
 rintro _ w5 ⟨rfl, q⟩
 replace N1 := hid (N1.out.later q)
 replace N2 := hid (N2.out.later q)
 replace HJ := hid (HJ.out.later q)
 replace QQ := hid (QQ.out.trans (q.mono QQ.out.size))
 clear q
 rw [parsed_2]
 go_wp2_with fail
 refine (parse_code _ _ (by decide)).mono ?_
 rintro _ w6 ⟨rfl, q⟩
 replace N1 := hid (N1.out.later q)
 replace N2 := hid (N2.out.later q)
 replace HJ := hid (HJ.out.later q)
 replace QQ := hid (QQ.out.trans (q.mono QQ.out.size))
 clear q
 rw [parsed_3]
 obtain ⟨_, jb, e, jc⟩ := HJ.out.at (i := 0) (p := 2) rfl
 subst e
 have jc' := jc
 rw [show jb.add 0 = jb from rfl] at jc'
 have h1 := N1.out
 have ic0 := h1.cell 0 _ rfl
 have ic1 := h1.cell 1 _ rfl
 have ic2 := h1.cell 2 _ rfl
 have ic3 := h1.cell 3 _ rfl
 clear h1 N2
 go_wp2_with fail
 refine (text_code _ _ (by decide)).mono ?_
 rintro _ w7 ⟨rfl, q⟩
 replace QQ := hid (QQ.out.trans (q.mono QQ.out.size))
 clear q
 rw [text_1]
 go_wp2_with fail
 refine (push_any _ _ (by decide) _ _).mono ?_
 rintro _ w8 ⟨rfl, q⟩
 replace QQ := hid (QQ.out.trans (q.mono QQ.out.size))
 clear q
 rw [push_1]
 go_wp2_with fail
 refine (O5.out _).mono ?_
 rintro _ w9 ⟨rfl, q9⟩
 replace QQ := hid (QQ.out.trans (q9.mono QQ.out.size))
 clear q9
 go_wp2_with fail
 go_ret
 exact ⟨rfl, QQ.out⟩
end
end Go.Proofs.YthcmfadofogfaaaDoor
