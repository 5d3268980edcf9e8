/- Part. -/
import Derived.Test.YthfghmodfpddpaaG03
import Derived.OwnWalkIn
set_option maxRecDepth 100000
set_option maxHeartbeats 16000000
namespace Go.Proofs.Ythfghmodfpddpaa
open Go Go.RowKit
attribute [local go_sem] Oper.semAt_some Grows wide_fn eq4
theorem rpush_any (W : World) (sv lv : Value) (s l : List Nat) (hs : WdsAt W sv s) (hl : WdsAt W lv l) (hk : s.length ≤ 10000) (hm : l.length ≤ 10000) :
  Calls Try.prog 10 #[sv, lv] W (PushP W s l) := by
 have hfin := hid (show ∀ v' (w' : World) (c : Int) (r : List Nat), pushE s l = c → pushL s l = r → WdsAt w' v' r → Below W.heap.size W w' → PushP W s l (.returned (.tuple #[v', .int .i64 c])) w' from fun v' w' c r h1 h2 h3 h4 => by subst h1 h2; exact ⟨v', rfl, h3, h4⟩)
 obtain ⟨Post, hPost⟩ : ∃ Post, PushP W s l = Post := ⟨_, rfl⟩
 rw [hPost] at hfin ⊢
 clear hPost
 have HA := hid (And.intro hs.all hl.all)
 obtain ⟨a, ca, rfl, _, _⟩ := hs.shape
 obtain ⟨b, cb, rfl, _, _⟩ := hl.shape
 have HC := hid (fun X (hX : Below W.heap.size W X) => own_words' X _ s (hs.later hX) (by omega))
 have HO := hid (own_words W _ s hs (by omega))
 have HQ := hid (fun X v' (hX : Below W.heap.size W X) hr => append_words X W.heap.size v' s hr hX.size _ l (hl.later hX) (by omega))
 have HE := hid (show ∀ c1, pushE s l = c1 → pushL s l = if c1 = 0 then s ++ l else s from fun c h => by subst h; rfl)
 have HP := hid (show pushE s l = if 1024 < s.length then 1 else if 1024 < s.length + l.length then 41 else 0 from rfl)
 have HN := hid (And.intro (Eq.refl s.length) (Eq.refl l.length))
 clear hs hl
 generalize s.length = n at *
 generalize l.length = m at *
 have h0 : (0 : Int) ≤ (n : Int) := by omega
 have h1 : (n : Int) ≤ 10000 := by omega
 have h2 : (0 : Int) ≤ (m : Int) := by omega
 have h3 : (m : Int) ≤ 10000 := by omega
 by_cases c1 : 1024 < n
 ·have c1' : (n : Int) > 1024 := by omega
  have he := hid (show pushE s l = 1 by rw [HP.out, if_pos c1])
  clear hk hm c1
  go_enter Try.func10, Try.ntmps10
  go_wp2_with fail
  refine (HC.out _ (Below.refl _ _)).mono ?_
  rintro e w2 ⟨v', rfl, k2, q2⟩
  go_wp2
  exact hfin.out _ _ _ _ he.out (HE.out _ he.out) k2 q2
 ·have c1' : ¬ (n : Int) > 1024 := by omega
  by_cases c2 : 1024 < n + m
  ·have c2' : (n : Int) + (m : Int) > 1024 := by omega
   have he := hid (show pushE s l = 41 by rw [HP.out, if_neg c1, if_pos c2])
   clear hk hm c1 c2
   go_enter Try.func10, Try.ntmps10
   go_wp2_with fail
   refine (HC.out _ (Below.refl _ _)).mono ?_
   rintro e w2 ⟨v', rfl, k2, q2⟩
   go_wp2
   exact hfin.out _ _ _ _ he.out (HE.out _ he.out) k2 q2
  ·have c2' : ¬ (n : Int) + (m : Int) > 1024 := by omega
   have he := hid (show pushE s l = 0 by rw [HP.out, if_neg c1, if_neg c2])
   clear hk hm c1 c2
   go_enter Try.func10, Try.ntmps10
   go_wp2_with fail
   refine HO.out.mono ?_
   rintro e w2 ⟨v', rfl, k2, q2⟩
   obtain ⟨v3, w3, happ, k3, _, q3⟩ := HQ.out w2 v' q2 k2
   have K3 := hid (k3.keys (fun z hz => by
    rcases List.mem_append.1 hz with hz | hz
    ·exact HA.out.1 z hz
    ·exact HA.out.2 z hz))
   have Q3 := hid (q2.trans (q3.mono (Nat.le_refl _)))
   clear k3 q3 k2
   go_wp2_with (at_builtin; refine wpList_append_runW rfl (.tmp 20) (.tmp 21) 27 rfl _ _ _ rfl rfl happ ?_)
   exact hfin.out _ _ _ _ he.out (HE.out _ he.out) K3.out Q3.out
def topW (s : List Nat) (k : Int) : Nat := s.getD (s.length - k.toNat) 0
def dupE (s : List Nat) (k : Int) : Int := if askN s.length k 1 0 = 0 then pushE s [topW s k] else askN s.length k 1 0
def dupL (s : List Nat) (k : Int) : List Nat := if askN s.length k 1 0 = 0 then pushL s [topW s k] else s
def StkP (W : World) (l : List Nat) (c : Int) (e : Ending) (w' : World) : Prop := ∃ v', e = .returned (.tuple #[v', .int .i64 c]) ∧ WdsAt w' v' l ∧ Below W.heap.size W w'
theorem ask_ok {n : Nat} {k least below : Int} (h : askN n k least below = 0) : n ≤ 1024 ∧ least ≤ k ∧ k ≤ (n : Int) - below := by
 unfold askN at h
 split at h
 ·cases h
 ·rename_i h1
  split at h
  ·cases h
  ·omega
theorem top_at {s : List Nat} {k : Int} (h1 : 1 ≤ k) (h2 : k ≤ (s.length : Int)) : ∃ i : Nat, (s.length : Int) - k = (i : Int) ∧ i < s.length ∧ s[i]? = some (topW s k) := by
 refine ⟨s.length - k.toNat, by omega, by omega, ?_⟩
 unfold topW
 rw [List.getD_eq_getElem?_getD, List.getElem?_eq_getElem (by omega)]
 rfl
theorem one_made (w : World) (x : Nat) (h : W256 x) : WdsAt (w.alloc (.cells #[.int .u64 (lim x 0), .int .u64 (lim x 1), .int .u64 (lim x 2), .int .u64 (lim x 3)] 25)) (.slice (some ⟨w.heap.size, 0, none⟩) 1 1) [x] :=
 words_made w [x] (by intro z hz; simp at hz; subst hz; exact h) (by simp)
theorem dup_any (W : World) (sv : Value) (s : List Nat) (k : Int) (hs : WdsAt W sv s) (hk : s.length ≤ 10000) :
  Calls Try.prog 13 #[sv, .int .i64 k] W (StkP W (dupL s k) (dupE s k)) := by
 have hfin := hid (show ∀ v' (w' : World) (c : Int), askN s.length k 1 0 = c → c ≠ 0 → WdsAt w' v' s → Below W.heap.size W w' → StkP W (dupL s k) (dupE s k) (.returned (.tuple #[v', .int .i64 c])) w' from fun v' w' c h1 h2 h3 h4 => by
  unfold dupL dupE
  rw [h1, if_neg h2, if_neg h2]
  exact ⟨v', rfl, h3, h4⟩)
 have hfin2 := hid (show ∀ v' (w' : World), askN s.length k 1 0 = 0 → WdsAt w' v' (pushL s [topW s k]) → Below W.heap.size W w' → StkP W (dupL s k) (dupE s k) (.returned (.tuple #[v', .int .i64 (pushE s [topW s k])])) w' from fun v' w' h1 h3 h4 => by
  unfold dupL dupE
  rw [if_pos h1, if_pos h1]
  exact ⟨v', rfl, h3, h4⟩)
 obtain ⟨Post, hPost⟩ : ∃ Post, StkP W (dupL s k) (dupE s k) = Post := ⟨_, rfl⟩
 rw [hPost] at hfin hfin2 ⊢
 clear hPost
 obtain ⟨a, ca, rfl, _, _⟩ := hs.shape
 have HS := hid hs
 have HC := hid (fun X (hX : Below W.heap.size W X) => clone_words' X _ s (hs.later hX) (by omega))
 have HP := hid (fun X x lv (hX : Below W.heap.size W X) (hl : WdsAt X lv [x]) => push_any X _ lv s [x] (hs.later hX) hl hk (by simp))
 have HT := hid (fun h1 h2 => top_at (s := s) (k := k) h1 h2)
 clear hs
 have HR := hid (asked_ret a s.length ca k 1 0 (by omega) ⟨by decide, by decide⟩ ⟨by decide, by decide⟩)
 have HPL := hid (place_ret a s.length ca k (by omega))
 by_cases c0 : askN s.length k 1 0 = 0
 ·obtain ⟨g1, g2, g3⟩ := ask_ok c0
  obtain ⟨i, hi, hil, hx⟩ := HT.out g2 (by omega)
  rw [c0] at HR
  have HPL2 := hid (HPL.out (by omega) (by omega))
  rw [hi] at HPL2
  have HX := hid hx
  have H0 := hid c0
  have i0 : (0 : Int) ≤ (i : Int) := by omega
  have i1 : (i : Int) < (s.length : Int) := by omega
  have ib : (i : Int) ≤ 10000 := by omega
  clear hx c0 HT HPL hfin HC hi g1 g2 g3
  generalize topW s k = x at *
  generalize hn : s.length = n at *
  clear hn hk hil
  go_enter Try.func13, Try.ntmps13
  go_wp2_with fail
  refine (HR.out _).mono ?_
  rintro e w1 ⟨rfl, q1⟩
  go_wp2_with fail
  refine (HPL2.out _).mono ?_
  rintro e w2 ⟨rfl, q2⟩
  have Q2 := hid (q1.trans (q2.mono q1.size))
  obtain ⟨b, rfl, _⟩ := HS.out.at HX.out
  obtain ⟨k0, k1, k2, k3⟩ := (HS.out.later Q2.out).at4 HX.out
  have KW := hid (one_made w2 x (HS.out.ok HX.out))
  have q3 := newA w2 (.cells #[.int .u64 (lim x 0), .int .u64 (lim x 1), .int .u64 (lim x 2), .int .u64 (lim x 3)] 25)
  have Q3 := hid (Q2.out.trans (q3.mono Q2.out.size))
  clear q1 q2 q3
  go_wp2_with fail
  refine (HP.out _ x _ Q3.out KW.out).mono ?_
  rintro e w4 ⟨v', rfl, k4, q4⟩
  go_wp2
  exact hfin2.out _ _ H0.out k4 (Q3.out.trans (q4.mono Q3.out.size))
 ·have H0 := hid c0
  obtain ⟨c, hc⟩ : ∃ c, askN s.length k 1 0 = c := ⟨_, rfl⟩
  have hcn : c ≠ 0 := by rw [← hc]; exact c0
  rw [hc] at HR
  have HF := hid (fun v' w' => hfin.out v' w' c hc hcn)
  clear c0 HT HPL hfin hfin2 HP H0 hc
  generalize hn : s.length = n at *
  clear hn hk
  go_enter Try.func13, Try.ntmps13
  go_wp2_with fail
  refine (HR.out _).mono ?_
  rintro e w1 ⟨rfl, q1⟩
  go_wp2_with fail
  refine (HC.out _ q1).mono ?_
  rintro e w2 ⟨v', rfl, k2, q2⟩
  go_wp2
  exact HF.out _ _ k2 (q1.trans (q2.mono q1.size))
theorem rdup_any (W : World) (sv : Value) (s : List Nat) (k : Int) (hs : WdsAt W sv s) (hk : s.length ≤ 10000) :
  Calls Try.prog 14 #[sv, .int .i64 k] W (StkP W (dupL s k) (dupE s k)) := by
 have hfin := hid (show ∀ v' (w' : World) (c : Int), askN s.length k 1 0 = c → c ≠ 0 → WdsAt w' v' s → Below W.heap.size W w' → StkP W (dupL s k) (dupE s k) (.returned (.tuple #[v', .int .i64 c])) w' from fun v' w' c h1 h2 h3 h4 => by
  unfold dupL dupE
  rw [h1, if_neg h2, if_neg h2]
  exact ⟨v', rfl, h3, h4⟩)
 have hfin2 := hid (show ∀ v' (w' : World), askN s.length k 1 0 = 0 → WdsAt w' v' (pushL s [topW s k]) → Below W.heap.size W w' → StkP W (dupL s k) (dupE s k) (.returned (.tuple #[v', .int .i64 (pushE s [topW s k])])) w' from fun v' w' h1 h3 h4 => by
  unfold dupL dupE
  rw [if_pos h1, if_pos h1]
  exact ⟨v', rfl, h3, h4⟩)
 obtain ⟨Post, hPost⟩ : ∃ Post, StkP W (dupL s k) (dupE s k) = Post := ⟨_, rfl⟩
 rw [hPost] at hfin hfin2 ⊢
 clear hPost
 obtain ⟨a, ca, rfl, _, _⟩ := hs.shape
 have HS := hid hs
 have HC := hid (fun X (hX : Below W.heap.size W X) => own_words' X _ s (hs.later hX) (by omega))
 have HP := hid (fun X x lv (hX : Below W.heap.size W X) (hl : WdsAt X lv [x]) => rpush_any X _ lv s [x] (hs.later hX) hl hk (by simp))
 have HT := hid (fun h1 h2 => top_at (s := s) (k := k) h1 h2)
 clear hs
 have HAN := hid (show askN s.length k 1 0 = if 1024 < s.length ∨ k < 1 then 1 else if (s.length : Int) - 0 < k then 40 else 0 from rfl)
 have h0 : (0 : Int) ≤ (s.length : Int) := by omega
 have h1 : (s.length : Int) ≤ 10000 := by omega
 by_cases c0 : askN s.length k 1 0 = 0
 ·obtain ⟨g1, g2, g3⟩ := ask_ok c0
  obtain ⟨i, hi, hil, hx⟩ := HT.out g2 (by omega)
  have HX := hid hx
  have H0 := hid c0
  have i0 : (0 : Int) ≤ (i : Int) := by omega
  have i1 : (i : Int) < (s.length : Int) := by omega
  have ib : (i : Int) ≤ 10000 := by omega
  have d1 : ¬ (s.length : Int) > 1024 := by omega
  have d2 : ¬ k < 1 := by omega
  have d3 : ¬ k > (s.length : Int) := by omega
  clear hx c0 HT hfin HC g1 g3 HAN
  generalize topW s k = x at *
  generalize hn : s.length = n at *
  clear hn hk hil
  go_enter Try.func14, Try.ntmps14
  obtain ⟨b, rfl, _⟩ := HS.out.at HX.out
  obtain ⟨k0, k1, k2, k3⟩ := HS.out.at4 HX.out
  have KW := hid (one_made W x (HS.out.ok HX.out))
  have Q3 := hid (newA W (.cells #[.int .u64 (lim x 0), .int .u64 (lim x 1), .int .u64 (lim x 2), .int .u64 (lim x 3)] 25))
  go_wp2_with fail
  refine (HP.out _ x _ Q3.out KW.out).mono ?_
  rintro e w4 ⟨v', rfl, k4, q4⟩
  go_wp2
  exact hfin2.out _ _ H0.out k4 (Q3.out.trans (q4.mono Q3.out.size))
 ·obtain ⟨c, hc⟩ : ∃ c, askN s.length k 1 0 = c := ⟨_, rfl⟩
  have hcn : c ≠ 0 := by rw [← hc]; exact c0
  have HF := hid (fun v' w' => hfin.out v' w' c hc hcn)
  rw [hc] at HAN
  have HCN := hid hcn
  clear c0 HT hfin hfin2 HP hc hcn
  generalize hn : s.length = n at *
  clear hn hk
  have key : (((n : Int) > 1024 ∨ (¬ (n : Int) > 1024 ∧ k < 1)) ∧ c = 1) ∨ (¬ (n : Int) > 1024 ∧ ¬ k < 1 ∧ k > (n : Int) ∧ c = 40) := by
   have h := HAN.out
   split at h
   ·rename_i h'
    refine .inl ⟨?_, h⟩
    rcases h' with h' | h'
    ·exact .inl (by omega)
    ·by_cases hh : (n : Int) > 1024
     ·exact .inl hh
     ·exact .inr ⟨hh, h'⟩
   ·split at h
    ·exact .inr ⟨by omega, by omega, by omega, h⟩
    ·exact absurd h HCN.out
  clear HAN
  obtain ⟨d1 | ⟨d1, d2⟩, rfl⟩ | ⟨d1, d2, d3, rfl⟩ := key
  all_goals
   go_enter Try.func14, Try.ntmps14
   go_wp2_with fail
   refine (HC.out _ (Below.refl _ _)).mono ?_
   rintro e w2 ⟨v', rfl, k2, q2⟩
   go_wp2
   exact HF.out _ _ k2 q2
theorem WdIn.range {W : World} {g o : Nat} {x : Nat} : WdIn W ⟨g, o, none⟩ x ↔ W.rangeAt g o (wdL x) := by
 unfold WdIn World.rangeAt
 simp only [Addr.add_mid]
theorem WdsAt.set {W : World} {g n cap : Nat} {l : List Nat} (h : WdsAt W (.slice (some ⟨g, 0, none⟩) n cap) l) (i : Nat) (hi : i < l.length) (y : Nat) (hy : W256 y) (ht : W.there g (i * 4) 4) :
  WdsAt (W.setCells g (i * 4) (wdL y)) (.slice (some ⟨g, 0, none⟩) n cap) (l.set i y) := by
 obtain ⟨a', cap', h1, h2, h3, h4, h5⟩ := h
 injection h1 with e1 e2 e3
 subst e1 e3
 refine ⟨_, cap, by rw [List.length_set, e2], by rw [List.length_set]; exact h2, h3, fun x hx => ?_, fun j x hx => ⟨_, rfl, ?_⟩⟩
 ·rcases List.mem_or_eq_of_mem_set hx with hx | rfl
  ·exact h4 x hx
  ·exact hy
 ·rw [Addr.add_mid, Nat.zero_add, WdIn.range]
  by_cases hj : j = i
  ·subst hj
   rw [List.getElem?_set_self hi] at hx
   injection hx with hx
   subst hx
   exact World.rangeAt_setCells_same W g (j * 4) _ ht
  ·rw [List.getElem?_set_ne (fun e => hj e.symm)] at hx
   obtain ⟨b, e, hb⟩ := h5 j x hx
   injection e with e
   subst e
   rw [Addr.add_mid, Nat.zero_add, WdIn.range] at hb
   exact World.rangeAt_setCells_apart hb g (i * 4) _ (.inr (by rw [wdL_len, wdL_len]; omega))
theorem below_setCellsW {B : Nat} {w0 : World} (b : Nat) (hBb : B ≤ b) : ∀ (vs : List Value) (o : Nat) (w : World), Below B w0 w → Below B w0 (w.setCells b o vs)
 | [], _, _, h => h
 | v :: r, o, w, h => below_setCellsW b hBb r (o + 1) _ (h.setCell (p := ⟨b, o, none⟩) hBb v)
theorem WdRow.open {W : World} {base : Nat} {v : Value} {l : List Nat} (h : WdRow W base v l) (hl : 0 < l.length) : ∃ g cap, v = .slice (some ⟨g, 0, none⟩) l.length cap ∧ base ≤ g ∧ ∀ i, i < l.length → W.there g (i * 4) 4 := by
 rcases h.2 with ⟨_, h0⟩ | ⟨g, cap, cur, rfl, hbg, hg', hnc, hcm, hcs, _⟩
 ·omega
 ·refine ⟨g, cap, rfl, hbg, fun i hi j hj => ⟨?_, by simp [World.frozen?, hg']⟩⟩
  have hlt : i * 4 + j < cur.size := by rw [hcs]; omega
  simp [World.cell?, hg', hlt]
theorem thereW_later {W X : World} {b o n : Nat} (h : W.there b o n) (hn : 0 < n) (hb : Below W.heap.size W X) : X.there b o n := fun j hj => by
 have hlt : b < W.heap.size := by
  obtain ⟨u, hu⟩ := Option.isSome_iff_exists.1 (h 0 hn).1
  exact cell_lt hu
 obtain ⟨h1, h2⟩ := h j hj
 refine ⟨?_, (hb.frozen (p := ⟨b, o + j, none⟩) hlt).trans h2⟩
 rw [hb.cell (p := ⟨b, o + j, none⟩) hlt]
 exact h1
def swpL (s : List Nat) (k : Int) : List Nat := if askN s.length k 1 1 = 0 then (s.set (s.length - 1) (s.getD (s.length - 1 - k.toNat) 0)).set (s.length - 1 - k.toNat) (s.getD (s.length - 1) 0) else s
theorem getD_at {s : List Nat} {i : Nat} (h : i < s.length) : s[i]? = some (s.getD i 0) := by
 rw [List.getD_eq_getElem?_getD, List.getElem?_eq_getElem h]
 rfl
theorem swap_any (W : World) (sv : Value) (s : List Nat) (k : Int) (hs : WdsAt W sv s) (hk : s.length ≤ 10000) :
  Calls Try.prog 15 #[sv, .int .i64 k] W (StkP W (swpL s k) (askN s.length k 1 1)) := by
 have hmx : Try.prog.follows .mixedOrders = true := by kernel_rfl
 have hfin := hid (show ∀ v' (w' : World) (c : Int), askN s.length k 1 1 = c → c ≠ 0 → WdsAt w' v' s → Below W.heap.size W w' → StkP W (swpL s k) (askN s.length k 1 1) (.returned (.tuple #[v', .int .i64 c])) w' from fun v' w' c h1 h2 h3 h4 => by
  unfold swpL
  rw [h1, if_neg h2]
  exact ⟨v', rfl, h3, h4⟩)
 have hfin2 := hid (show ∀ v' (w' : World), askN s.length k 1 1 = 0 → WdsAt w' v' ((s.set (s.length - 1) (s.getD (s.length - 1 - k.toNat) 0)).set (s.length - 1 - k.toNat) (s.getD (s.length - 1) 0)) → Below W.heap.size W w' → StkP W (swpL s k) (askN s.length k 1 1) (.returned (.tuple #[v', .int .i64 0])) w' from fun v' w' h1 h3 h4 => by
  unfold swpL
  rw [h1, if_pos rfl]
  exact ⟨v', rfl, h3, h4⟩)
 obtain ⟨Post, hPost⟩ : ∃ Post, StkP W (swpL s k) (askN s.length k 1 1) = Post := ⟨_, rfl⟩
 rw [hPost] at hfin hfin2 ⊢
 clear hPost
 obtain ⟨a, ca, rfl, _, _⟩ := hs.shape
 have HALL := hid hs.all
 have HC := hid (clone_words W _ s hs (by omega))
 have HR := hid (asked_ret a s.length ca k 1 1 (by omega) ⟨by decide, by decide⟩ ⟨by decide, by decide⟩)
 have HP1 := hid (place_ret a s.length ca 1 (by omega) (by decide) (by decide))
 have HP2 := hid (place_ret a s.length ca (k + 1) (by omega))
 clear hs
 by_cases c0 : askN s.length k 1 1 = 0
 ·obtain ⟨g1, g2, g3⟩ := ask_ok c0
  rw [c0] at HR
  obtain ⟨i, hi⟩ : ∃ i : Nat, s.length - 1 = i := ⟨_, rfl⟩
  obtain ⟨j, hj⟩ : ∃ j : Nat, s.length - 1 - k.toNat = j := ⟨_, rfl⟩
  have HXY := hid (And.intro (getD_at (s := s) (i := i) (by omega)) (getD_at (s := s) (i := j) (by omega)))
  replace HP2 := hid (HP2.out (by omega) (by omega))
  rw [show (s.length : Int) - (k + 1) = (j : Int) by omega] at HP2
  rw [show (s.length : Int) - 1 = (i : Int) by omega] at HP1
  have HIJ := hid (show i < s.length ∧ j < s.length ∧ 0 < s.length ∧ i ≠ j from ⟨by omega, by omega, by omega, by omega⟩)
  rw [hj, hi] at hfin2
  have H0 := hid c0
  have i0 : (0 : Int) ≤ (i : Int) := by omega
  have i1 : (i : Int) < (s.length : Int) := by omega
  have ib : (i : Int) ≤ 10000 := by omega
  have j0 : (0 : Int) ≤ (j : Int) := by omega
  have j1 : (j : Int) < (s.length : Int) := by omega
  have jb : (j : Int) ≤ 10000 := by omega
  have kb : k ≤ 10000 := by omega
  have k0 : 0 ≤ k := by omega
  clear c0 hfin hi hj g1 g2 g3
  generalize s.getD i 0 = x at *
  generalize s.getD j 0 = y at *
  obtain ⟨n, hn⟩ : ∃ n, s.length = n := ⟨_, rfl⟩
  have HN := hid hn
  rw [hn] at HC HR HP1 HP2 i1 j1 ⊢
  clear hn hk
  go_enter Try.func15, Try.ntmps15
  go_wp2_with fail
  refine HC.out.mono ?_
  rintro e w0 ⟨v0, rfl, r0, q0⟩
  obtain ⟨g, cap, rfl, hg, ht⟩ := r0.open HIJ.out.2.2.1
  have RA := hid (r0.keys HALL.out)
  have Q0 := hid q0
  have HT := hid (And.intro hg ht)
  rw [HN.out]
  clear r0 q0 hg ht HC
  go_wp2_with fail
  refine (HR.out _).mono ?_
  rintro e w1 ⟨rfl, q1⟩
  have Q1 := hid q1
  clear q1 HR
  go_wp2_with fail
  refine (HP1.out _).mono ?_
  rintro e w2 ⟨rfl, q2⟩
  have Q2 := hid (Q1.out.trans (q2.mono Q1.out.size))
  clear q2 HP1
  go_wp2_with fail
  refine (HP2.out _).mono ?_
  rintro e w3 ⟨rfl, q3⟩
  have Q3 := hid (Q2.out.trans (q3.mono Q2.out.size))
  clear q3 HP2
  have hp0 : (⟨g, 0, none⟩ : Addr).add (i * 4) = ⟨g, i * 4, none⟩ := by rw [Addr.add_mid, Nat.zero_add]
  have hp1 : (⟨g, 0, none⟩ : Addr).add (j * 4) = ⟨g, j * 4, none⟩ := by rw [Addr.add_mid, Nat.zero_add]
  have LI := hid (show ∀ z : World, Grows w3 z → (loadVar 25 ⟨g, i * 4, none⟩).run Try.prog z = .ok (.agg (wdL x).toArray) z from fun z hz => by
   obtain ⟨q, rfl⟩ := hz
   have := ((RA.out.later Q3.out).later q.below).in HXY.out.1
   rw [hp0] at this
   exact this.load)
  have LJ := hid (show ∀ z : World, Grows w3 z → (loadVar 25 ⟨g, j * 4, none⟩).run Try.prog z = .ok (.agg (wdL y).toArray) z from fun z hz => by
   obtain ⟨q, rfl⟩ := hz
   have := ((RA.out.later Q3.out).later q.below).in HXY.out.2
   rw [hp1] at this
   exact this.load)
  have HZ := hid (show (wdL x).toArray.toList = wdL x ∧ (wdL y).toArray.toList = wdL y from ⟨rfl, rfl⟩)
  have hix : (Try.prog.info? 25).map (·.size) = some (wdL x).toArray.size := infoWs
  have hiy : (Try.prog.info? 25).map (·.size) = some (wdL y).toArray.size := infoWs
  have hox : (wdL x).toArray.all (·.oneCell') = true := all_oneCell_toArray (wdL_one x)
  have hoy : (wdL y).toArray.all (·.oneCell') = true := all_oneCell_toArray (wdL_one y)
  have hsx : (wdL x).toArray.size = 4 := rfl
  have hsy : (wdL y).toArray.size = 4 := rfl
  generalize (wdL x).toArray = cx at *
  generalize (wdL y).toArray = cy at *
  go_wp2_with fail
  refine wp_region_mix (C := Grows _) [some true, some true, some false, some false, some true, some true, some true, some true, some true, some true, some true, some true, none, none, none, none] hmx (by kernel_rfl) (by kernel_rfl) (grows_refl _) ?_
  simp only [headOf, tailOf]
  repeat (first | (with_reducible refine wpQuiet_load rfl 25 _ rfl _ rfl _ LJ.out ?_; simp only [Act.put, sT, sS, sZ]) | (with_reducible refine wpQuiet_load rfl 25 _ rfl _ rfl _ LI.out ?_; simp only [Act.put, sT, sS, sZ]) | (go_big_quiet_step (fail)))
  refine wpQuiet_nil ?_
  rintro _ ⟨z, rfl⟩
  have Q4 := hid (Q3.out.trans (z.below.mono Q3.out.size))
  have hT1 : z.w.there g (i * 4) cy.size := by rw [hsy]; exact thereW_later (HT.out.2 i HIJ.out.1) (by decide) Q4.out
  have hT2 : (z.w.setCells g (i * 4) cy.toList).there g (j * 4) cx.size := by rw [hsx]; exact World.there_setCells (thereW_later (HT.out.2 j HIJ.out.2.1) (by decide) Q4.out) _ _ _
  clear LI LJ
  go_wp2_with (first | (refine wpList_store_mid rfl 25 (.tmp 37) (.tmp 32) rfl g (i * 4) cy rfl rfl hT1 hiy hoy ?_) | (refine wpList_store_mid rfl 25 (.tmp 38) (.tmp 36) rfl g (j * 4) cx rfl rfl hT2 hix hox ?_))
  rw [calmPost_normal]
  have F1 := hid (show WdsAt ((z.w.setCells g (i * 4) cy.toList).setCells g (j * 4) cx.toList) (.slice (some ⟨g, 0, none⟩) n cap) ((s.set i y).set j x) from by
   rw [HZ.out.1, HZ.out.2, ← HN.out]
   rw [HZ.out.2, hsx] at hT2
   rw [hsy] at hT1
   exact (((RA.out.later Q4.out).set i HIJ.out.1 y (HALL.out _ (List.mem_of_getElem? HXY.out.2)) hT1)).set j (by rw [List.length_set]; exact HIJ.out.2.1) x (HALL.out _ (List.mem_of_getElem? HXY.out.1)) hT2)
  have F2 := hid (below_setCellsW g HT.out.1 cx.toList (j * 4) _ (below_setCellsW g HT.out.1 cy.toList (i * 4) _ (Q0.out.trans (Q4.out.mono Q0.out.size))))
  clear hT1 hT2 hix hiy hox hoy
  generalize ((z.w.setCells g (i * 4) cy.toList).setCells g (j * 4) cx.toList) = wz at *
  go_wp2
  exact hfin2.out _ _ H0.out F1.out F2.out
 ·obtain ⟨c, hc⟩ : ∃ c, askN s.length k 1 1 = c := ⟨_, rfl⟩
  have hcn : c ≠ 0 := by rw [← hc]; exact c0
  rw [hc] at HR
  have HF := hid (fun v' w' => hfin.out v' w' c hc hcn)
  clear c0 hfin hfin2 HP1 HP2 hc
  generalize hn : s.length = n at *
  clear hn hk
  go_enter Try.func15, Try.ntmps15
  go_wp2_with fail
  refine HC.out.mono ?_
  rintro e w0 ⟨v0, rfl, r0, q0⟩
  have RA := hid (r0.keys HALL.out)
  have Q0 := hid q0
  clear r0 q0 HC
  go_wp2_with fail
  refine (HR.out _).mono ?_
  rintro e w1 ⟨rfl, q1⟩
  go_wp2
  exact HF.out _ _ (RA.out.later q1) (Q0.out.trans (q1.mono Q0.out.size))
def KpW (n0 : Nat) (L : List Nat) (A X : World) : Prop := Below n0 A X ∧ ∀ b, b ∈ L → X.heap[b]? = A.heap[b]?
theorem KpW.refl (n0 : Nat) (L : List Nat) (A : World) : KpW n0 L A A := ⟨Below.refl _ _, fun _ _ => rfl⟩
theorem KpW.trans {n0 : Nat} {L : List Nat} {A B C : World} (h : KpW n0 L A B) (k : KpW n0 L B C) : KpW n0 L A C := ⟨h.1.trans k.1, fun b hb => (k.2 b hb).trans (h.2 b hb)⟩
theorem KpW.b {n0 : Nat} {L : List Nat} {w : World} (hn : n0 ≤ w.heap.size) (hL : ∀ b, b ∈ L → b < w.heap.size) (W : World) (l : Nat) (o o' : Obj) (hl : w.heap.size ≤ l) (h1 : W.heap[l]? = some o) (h2 : o.isCells = false) (_ : o.isWalk = false) : KpW n0 L W (W.putObj l o') :=
 ⟨⟨rfl, rfl, rfl, by simp, fun k hk => World.putObj_heap_other (by omega)⟩, fun b hb => World.putObj_heap_other (by have := hL b hb; omega)⟩
theorem KpW.of_below {n0 : Nat} {L : List Nat} {A X : World} (hn : n0 ≤ A.heap.size) (hL : ∀ b, b ∈ L → b < A.heap.size) (h : Below A.heap.size A X) : KpW n0 L A X :=
 ⟨h.mono hn, fun b hb => h.block b (hL b hb)⟩
theorem top_any (a : Option Addr) (n cap : Nat) (k : Int) (w : World) :
  Calls Try.prog 26 #[.slice a n cap, .int .i64 k] w fun e w' => e = .returned (.func (.func 28) #[] #[.pointer (some ⟨w.heap.size + 1, 0, none⟩), .pointer (some ⟨w.heap.size, 0, none⟩)]) ∧ w' = (w.alloc (.cells #[.slice a n cap] 43)).alloc (.cells #[.int .i64 k] 3) := by
 go_enter Try.func26, Try.ntmps26
 go_wp2
 go_ret
 exact ⟨rfl, rfl⟩
def nthW (l : List Nat) (k : Nat) : Nat := l.getD (l.length - 1 - k) 0
theorem top_seq (n : Nat) (hn : 1 ≤ n) (sv : Value) (l : List Nat) (N bN bP n0 : Nat) (w0 w : World) (hs : WdsAt w0 sv l) (hN : N ≤ l.length) (hl : l.length ≤ 10000) (h0 : w0.heap.size = n0) (hb : Below n0 w0 w)
  (hP : w.cell? ⟨bP, 0, none⟩ = some sv) (hQ : w.cell? ⟨bN, 0, none⟩ = some (.int .i64 (N : Int))) :
  SeqN Fence.wide n Try.prog 28 #[.pointer (some ⟨bN, 0, none⟩), .pointer (some ⟨bP, 0, none⟩)] (fun k => #[.agg #[.int .u64 (lim (nthW l k) 0), .int .u64 (lim (nthW l k) 1), .int .u64 (lim (nthW l k) 2), .int .u64 (lim (nthW l k) 3)]]) (KpW n0 [bN, bP]) N w := by
 intro ll J Jx W hW hJA _ hY hj0
 have hmx : Try.prog.follows .mixedOrders = true := by kernel_rfl
 have HA := hid hJA
 have HY := hid hY
 have hltP := World.block_lt_of_cell? w _ hP
 have hltN := World.block_lt_of_cell? w _ hQ
 have hP' := (hW.cell (p := ⟨bP, 0, none⟩) hltP).trans hP
 have hQ' := (hW.cell (p := ⟨bN, 0, none⟩) hltN).trans hQ
 have HLT := hid (show bP < W.heap.size ∧ bN < W.heap.size from ⟨Nat.lt_of_lt_of_le hltP hW.size, Nat.lt_of_lt_of_le hltN hW.size⟩)
 subst h0
 have HB := hid (show Below w0.heap.size w0 W from hb.trans (hW.mono hb.size))
 have HS := hid hs
 obtain ⟨a, cap, rfl, hnc, hcm⟩ := hs.shape
 have HPL := hid (fun m => place_ret a l.length cap m (by omega))
 have HN := hid (And.intro hN hl)
 have lI : (l.length : Int) ≤ 10000 := by omega
 have l0 : (0 : Int) ≤ (l.length : Int) := by omega
 obtain ⟨L, hL⟩ : ∃ L, l.length = L := ⟨_, rfl⟩
 have HL := hid hL
 rw [hL] at HPL HN hP' lI l0
 clear hJA hY hP hQ hltP hltN hs hb hN hl hnc hcm hL hW
 refine callsIn_of_wp Try.func28 rfl trivial ?_ rfl
 simp only [Try.ntmps28, List.size_toArray, List.length_cons, List.length_nil, Nat.reduceAdd, Nat.reduceSub, Array.replicate_succ, Array.replicate_zero, List.push_toArray, List.append_toArray, List.nil_append, List.cons_append]
 gi_wp2_with fail
 gi_loopw [4] (fun i wr => ∃ k : Nat, k ≤ N ∧ i = .int .i64 ((k : Int) + 1) ∧ J k wr ∧ KpW w0.heap.size [bN, bP] W wr) (fun i _ => N + 1 - (intOf i).toNat)
 case atStart => exact ⟨0, Nat.zero_le _, rfl, hj0, KpW.refl _ _ _⟩
 case round =>
  obtain ⟨k, hk, rfl, hJs, hkp⟩ := hrel
  have HKP := hid hkp
  have HJ := hid hJs
  have kp : wr.cell? ⟨bP, 0, none⟩ = some (.slice a L cap) := (World.cell?_of_block (hkp.2 bP (by simp))).trans hP'
  have kn : wr.cell? ⟨bN, 0, none⟩ = some (.int .i64 (N : Int)) := (World.cell?_of_block (hkp.2 bN (by simp))).trans hQ'
  have HBR := hid (HB.out.trans hkp.1)
  clear hj0 hkp hJs
  by_cases hlt : k < N
  ·have hltI : (k : Int) + 1 ≤ (N : Int) := by omega
   have hk0 : (0 : Int) ≤ (k : Int) := by omega
   have hkb : (k : Int) + 1 ≤ 10000 := by have := HN.out; omega
   obtain ⟨i, hi⟩ : ∃ i, L - 1 - k = i := ⟨_, rfl⟩
   have hx := getD_at (s := l) (i := i) (by have := HN.out; have := HL.out; omega)
   have hnth : nthW l k = l.getD i 0 := by unfold nthW; rw [HL.out, hi]
   have HY1 := HY.out k
   rw [hnth] at HY1
   have HYK := hid HY1
   have HX := hid hx
   have hpl := HPL.out ((k : Int) + 1) (by omega) (by omega)
   rw [show (L : Int) - ((k : Int) + 1) = (i : Int) by have := HN.out; omega] at hpl
   have HP := hid (fun z : Ext wr => Ret.at hpl z)
   have i0 : (0 : Int) ≤ (i : Int) := by omega
   have i1 : (i : Int) < (L : Int) := by have := HN.out; omega
   have HLT2 := hid (And.intro hlt hk)
   obtain ⟨b, rfl, _⟩ := HS.out.at hx
   have hC := fun z : Ext wr => (HS.out.later (HBR.out.trans (z.below.mono HBR.out.size))).at4 hx
   have c0 := fun z : Ext wr => (hC z).1
   have c1 := fun z : Ext wr => (hC z).2.1
   have c2 := fun z : Ext wr => (hC z).2.2.1
   have c3 := fun z : Ext wr => (hC z).2.2.2
   have e1 : ∀ z : Ext wr, z.w.cell? ⟨bP, 0, none⟩ = some (.slice (some b) L cap) := fun z => cell_below z.below _ _ kp
   have e2 : ∀ z : Ext wr, z.w.cell? ⟨bN, 0, none⟩ = some (.int .i64 (N : Int)) := fun z => cell_below z.below _ _ kn
   have E := hid (And.intro e1 e2)
   clear hlt hk hx hC hpl hnth HY1 hP' hQ' hi
   generalize l.getD i 0 = x at *
   gi_wp2_with fail
   refine wpIn_region_quiet_tailF (C := Grows wr) free_wide 7 hmx (by kernel_rfl) (by kernel_rfl) (grows_refl wr) ?_
   simp only [List.take_succ_cons, List.take_zero, List.drop_succ_cons, List.drop_zero]
   repeat (go_big_quiet_step (first | (with_reducible exact HP.out _)))
   refine wpQuiet_nil ?_
   rintro _ ⟨z, rfl⟩
   have hJ2 := HA.out k wr z.w none HJ.out (grown_of_below z.below none) (fun r e => by cases e)
   have hK2 := hid (HKP.out.trans (KpW.of_below (A := wr) (X := z.w) (by have := HBR.out.size; exact this) (fun b hb => by simp at hb; have := HLT.out; have h2 := HKP.out.1.size; rcases hb with rfl | rfl <;> first | exact (World.block_lt_of_cell? wr _ kp) | exact (World.block_lt_of_cell? wr _ kn)) z.below))
   obtain ⟨fn, tmps, assign, body, hy, hR⟩ := HYK.out z.w HLT2.out.1 hJ2
   have d1 := E.out.1 z
   have d2 := E.out.2 z
   clear c0 c1 c2 c3 e1 e2 hJ2 kp kn
   gi_wp2_with fail
   refine hR.mono ?_
   rintro e W3 (⟨rfl, hJ3, hk3⟩ | ⟨rfl, hJx3⟩)
   ·have HJ3 := hid hJ3
    have HK3 := hid hk3
    clear d1 d2 hk3 hJ3 hy hR
    gi_wp2_with fail
    go_roundw
    case rel => exact ⟨k + 1, HLT2.out.1, by simp, HJ3.out, hK2.out.trans HK3.out⟩
    case measure => have := HLT2.out.1; simp [intOf]; omega
   ·have hE := hid hJx3
    clear hy hR hJx3 d1 d2
    gi_wp2_with fail
    refine bodyPost_ret (results_none rfl _ _ _) rfl ?_
    exact ⟨⟨_, rfl⟩, .inr ⟨k, HLT2.out.1, hE.out⟩⟩
  ·obtain rfl : k = N := by omega
   have hkk : ¬ (k : Int) + 1 ≤ (k : Int) := by omega
   gi_wp2_with fail
   go_end0
   exact ⟨⟨_, rfl⟩, .inl HJ.out⟩
theorem wpListIn_append_runW {F : Fence} {n : Nat} {P : Program} {w w' : World} {ops : Array Oper} {rest : List Oper} {o : Oper} {a : Act} {Q : Exit → Act → World → Prop}
  (hg : o.guard = none) (s x : Operand) (t : TypeId) (hop : o.op = Op.call { callee := Callee.builtin Builtin.append, args := #[s, x], argTypes := #[t, t] })
  (v x0 v' : Value) (hs : a.eval s = v) (hx : a.eval x = x0) (hr : (Builtin.append_ #[t, t] o.type #[v, x0]).run P w = .ok v' w')
  (hK : wpListIn F n P ops Q rest (a.put o.dst v') w') : wpListIn F n P ops Q (o :: rest) a w := by
 refine wpListIn_plain hg fun K hK' => ?_
 unfold Oper.wpIn
 refine ⟨by simp [Oper.about, hop, resolve, Target.leads, Sem.run_pure], ?_⟩
 rw [Oper.semAt_plain F _ _ (by rw [hop]; intro c hc'; cases hc')]
 simp [execOp, hop, resolve, invoke, builtin, hs, hx, hr, Result.andThen]
 exact hK' _ _ hK
theorem WdRow.own {A X : World} {row : Option Nat} {base : Nat} {v : Value} {l : List Nat} (h : WdRow A base v l) (hg : A.grownBy X row) (hr : ∀ r, row = some r → ∃ o : Obj, A.heap[r]? = some o ∧ o.isCells = false) : WdRow X base v l := by
 refine World.ownsRow.kept h hg ?_
 rcases h.2 with ⟨rfl, _⟩ | ⟨g, cap, cur, rfl, _, hg', _⟩
 ·exact .inl rfl
 ·refine .inr (fun e => ?_)
  obtain ⟨o, ho, hc⟩ := hr g e.symm
  rw [hg'] at ho
  cases ho
  cases hc
theorem Has.ownW {A X : World} {row : Option Nat} {B : Nat} {t : TypeId} {cs : Array Value} (h : Has A B t cs) (hg : A.grownBy X row) (hr : ∀ r, row = some r → ∃ o : Obj, A.heap[r]? = some o ∧ o.isCells = false) : Has X B t cs := by
 refine (hg.block B h.lt (fun e => ?_)).trans h
 obtain ⟨o, ho, hc⟩ := hr B e.symm
 rw [show A.heap[B]? = _ from h] at ho
 cases ho
 cases hc
theorem below_ownW {A X : World} {row : Option Nat} {n : Nat} {w : World} (h : Below w.heap.size w A) (hg : A.grownBy X row) (hn : w.heap.size ≤ n) (hr : ∀ r, row = some r → n ≤ r) : Below w.heap.size w X :=
 h.trans ⟨hg.os, hg.tape, hg.output, hg.size, fun k hk => hg.block k (Nat.lt_of_lt_of_le hk h.size) (fun e => by have := hr k e.symm; omega)⟩
def PopSt (w : World) (B base m : Nat) (L : List Nat) (l : List Nat) (k : Nat) (W : World) : Prop :=
 ∃ v, Has W B 27 #[v] ∧ WdRow W base v ((List.range k).map (nthW l)) ∧ Below w.heap.size w W ∧ m ≤ W.heap.size ∧ ∀ b ∈ L, ∃ t cs, t ≠ 25 ∧ Has W b t cs
theorem PopSt.own {w : World} {B base m n : Nat} {L : List Nat} {l : List Nat} (hn : w.heap.size ≤ n) : OwnFrom n (fun k W => PopSt w B base m L l k W) := fun k A X row hs hg hr => by
 obtain ⟨v, h1, h2, h3, h4, h5⟩ := hs
 exact ⟨v, h1.ownW hg (fun r e => (hr r e).2), h2.own hg (fun r e => (hr r e).2), below_ownW h3 hg hn (fun r e => (hr r e).1), Nat.le_trans h4 hg.size, fun b hb => let ⟨t, cs, ht, h⟩ := h5 b hb; ⟨t, cs, ht, h.ownW hg (fun r e => (hr r e).2)⟩⟩
theorem run_mkW (n : Nat) (hn : n ≤ 100000) (W : World) : ∃ cs : Array Value, cs.size = n * 4 ∧ (Instr.makeSlice 27 (.int .i64 0) (.int .i64 (n : Int))).run Try.prog W = .ok (.slice (some ⟨W.heap.size, 0, none⟩) 0 n) (W.alloc (.cells cs 25)) := by
 obtain ⟨i, hi, hz, hs, hb⟩ := infoW_of
 have h := run_make (P := Try.prog) W 27 25 i _ Try.underlying27 hi hz .i64 .i64 0 (n : Int) (by omega) (by omega) (by rw [hb]; omega) (by omega)
 simp only [Int.toNat_natCast] at h
 rw [hs] at h
 exact ⟨_, size_madeCells _ _, h⟩
def popL (s : List Nat) (k : Int) : List Nat := if askN s.length k 0 0 = 0 then s.take (s.length - k.toNat) else s
def popT (s : List Nat) (k : Int) : List Nat := if askN s.length k 0 0 = 0 then (List.range k.toNat).map (nthW s) else []
def PopP (W : World) (s t : List Nat) (c : Int) (e : Ending) (w' : World) : Prop := ∃ v' u', e = .returned (.tuple #[v', u', .int .i64 c]) ∧ WdsAt w' v' s ∧ WdsAt w' u' t ∧ Below W.heap.size W w'
theorem WdsAt.take {W : World} {a : Option Addr} {n cap : Nat} {l : List Nat} (h : WdsAt W (.slice a n cap) l) (k : Nat) (hk : k ≤ n) : WdsAt W (.slice a k cap) (l.take k) := by
 obtain ⟨a', cap', h1, h2, h3, h4, h5⟩ := h
 injection h1 with e1 e2 e3
 subst e1 e3
 refine ⟨a, cap, by rw [List.length_take, Nat.min_eq_left (by omega)], by rw [List.length_take]; omega, h3, fun x hx => h4 x (List.mem_of_mem_take hx), fun i x hx => ?_⟩
 rw [List.getElem?_take] at hx
 split at hx
 ·exact h5 i x hx
 ·cases hx
theorem nthW_lt {l : List Nat} (h : ∀ x ∈ l, W256 x) (k : Nat) : W256 (nthW l k) := by
 unfold nthW
 rw [List.getD_eq_getElem?_getD]
 rcases Nat.lt_or_ge (l.length - 1 - k) l.length with h' | h'
 ·rw [List.getElem?_eq_getElem h']
  exact h _ (List.getElem_mem h')
 ·rw [List.getElem?_eq_none h']
  show W256 0
  unfold W256; omega
theorem range_snoc (l : List Nat) (k : Nat) : (List.range (k + 1)).map (nthW l) = (List.range k).map (nthW l) ++ [nthW l k] := by rw [List.range_succ, List.map_append]; rfl
section
def UPop (W : World) (ls : List Nat) (f : Nat → Bool) (g : Nat → Value) (w : World) : Prop :=
 Below W.heap.size W w ∧ (f 6 = true → WdsAt w (g 6) ls) ∧ (f 8 = true → f 6 = true ∧ g 8 = g 6)
variable {W : World} {ls : List Nat} {f : Nat → Bool} {g : Nat → Value} {w w' : World}
theorem UPop.later (h : UPop W ls f g w) (hb : Below w.heap.size w w') : UPop W ls f g w' := ⟨h.1.trans (hb.mono h.1.size), fun k => (h.2.1 k).later hb, h.2.2⟩
theorem UPop.same {f' : Nat → Bool} {g' : Nat → Value} (h : UPop W ls f g w) (hh : ∀ j, j = 6 ∨ j = 8 → f j = f' j ∧ g j = g' j) : UPop W ls f' g' w := by
 unfold UPop at h ⊢
 rwa [(hh 6 (by omega)).1, (hh 6 (by omega)).2, (hh 8 (by omega)).1, (hh 8 (by omega)).2] at h
theorem UPop.n6 (h : UPop W ls f g w) (hb : Below w.heap.size w w') (h8 : f 8 = false) {v : Value} (hk : WdsAt w' v ls) : UPop W ls (upd f 6 true) (upd g 6 v) w' := by
 obtain ⟨h1, h2, h3⟩ := h.later hb
 exact ⟨h1, fun _ => by simpa [upd] using hk, fun k => by simp [upd, h8] at k⟩
theorem UPop.n8 (h : UPop W ls f g w) (h6 : f 6 = true) : UPop W ls (upd f 8 true) (upd g 8 (g 6)) w := by
 obtain ⟨h1, h2, h3⟩ := h
 exact ⟨h1, by simpa [upd] using h2, fun _ => by simpa [upd] using h6⟩
end
theorem pop_any (W : World) (sv : Value) (s : List Nat) (k : Int) (hs : WdsAt W sv s) (hk : s.length ≤ 10000) :
  Calls Try.prog 17 #[sv, .int .i64 k] W (PopP W (popL s k) (popT s k) (askN s.length k 0 0)) := by
 have hmx : Try.prog.follows .mixedOrders = true := by kernel_rfl
 have hfin := hid (show ∀ v' (w' : World) (c : Int), askN s.length k 0 0 = c → c ≠ 0 → WdsAt w' v' s → Below W.heap.size W w' → PopP W (popL s k) (popT s k) (askN s.length k 0 0) (.returned (.tuple #[v', .slice none 0 0, .int .i64 c])) w' from fun v' w' c h1 h2 h3 h4 => by
  unfold popL popT
  rw [h1, if_neg h2, if_neg h2]
  exact ⟨v', _, rfl, h3, WdsAt.nil _, h4⟩)
 have hfin2 := hid (show ∀ v' u' (w' : World), askN s.length k 0 0 = 0 → WdsAt w' v' (s.take (s.length - k.toNat)) → WdsAt w' u' ((List.range k.toNat).map (nthW s)) → Below W.heap.size W w' → PopP W (popL s k) (popT s k) (askN s.length k 0 0) (.returned (.tuple #[v', u', .int .i64 0])) w' from fun v' u' w' h1 h2 h3 h4 => by
  unfold popL popT
  rw [h1, if_pos rfl, if_pos rfl]
  exact ⟨v', u', rfl, h2, h3, h4⟩)
 obtain ⟨Post, hPost⟩ : ∃ Post, PopP W (popL s k) (popT s k) (askN s.length k 0 0) = Post := ⟨_, rfl⟩
 rw [hPost] at hfin hfin2 ⊢
 clear hPost
 obtain ⟨a, ca, rfl, hnc, hcm⟩ := hs.shape
 have HS := hid hs
 have HALL := hid hs.all
 have HC := hid (fun X (hX : Below W.heap.size W X) => clone_words' X _ s (hs.later hX) (by omega))
 have HR := hid (asked_ret a s.length ca k 0 0 (by omega) ⟨by decide, by decide⟩ ⟨by decide, by decide⟩)
 clear hs
 by_cases c0 : askN s.length k 0 0 = 0
 ·obtain ⟨g1, g2, g3⟩ := ask_ok c0
  rw [c0] at HR
  obtain ⟨N, rfl⟩ : ∃ N : Nat, k = (N : Int) := ⟨k.toNat, by omega⟩
  simp only [Int.toNat_natCast] at hfin2
  have HCT := hid (fun X (hX : Below W.heap.size W X) => clone_words' X _ (s.take (s.length - N)) ((HS.out.later hX).take (s.length - N) (by omega)) (by simp; omega))
  have H0 := hid c0
  have HN := hid (show N ≤ s.length ∧ s.length ≤ 1024 from ⟨by omega, g1⟩)
  have HSUB := hid (show (s.length : Int) - (N : Int) = ((s.length - N : Nat) : Int) by omega)
  have n0 : (0 : Int) ≤ (N : Int) := by omega
  have n1 : (N : Int) ≤ 1024 := by omega
  have HNC := hid hnc
  clear c0 hfin HC g1 g2 g3 hk hnc hcm
  refine (callsIn_wide (n := 8)).1 ?_
  refine callsIn_of_wp_marks Try.func17 rfl trivial ?_ rfl
  simp only [Try.ntmps17, List.size_toArray, List.length_cons, List.length_nil, Nat.reduceAdd, Nat.reduceSub, Array.replicate_succ, Array.replicate_zero, List.push_toArray, List.append_toArray, List.nil_append, List.cons_append]
  obtain ⟨L, hL⟩ : ∃ L, s.length = L := ⟨_, rfl⟩
  have HL := hid hL
  rw [hL] at HR HCT HS HSUB ⊢
  clear hL
  gi_wp2_with fail
  refine (callsIn_free free_wide (HR.out _)).mono ?_
  rintro e w1 ⟨rfl, q1⟩
  have Q1 := hid q1
  obtain ⟨cs, hcs, hmk⟩ := run_mkW N (by have := HN.out; omega) w1
  have R2 : WdRow (w1.alloc (.cells cs 25)) w1.heap.size (.slice (some ⟨w1.heap.size, 0, none⟩) 0 N) [] := World.ownsRow_made w1 cs N (Nat.le_refl _) (by have := HN.out; unfold maxLen; omega) hcs
  have q2 := (newA w1 (.cells cs 25)).alloc (by simp) (.cells #[.slice (some ⟨w1.heap.size, 0, none⟩) 0 N] 27)
  have B2 := Has.new (w1.alloc (.cells cs 25)) 27 #[.slice (some ⟨w1.heap.size, 0, none⟩) 0 N]
  have R3 := R2.later ((Below.refl _ _).alloc (Nat.le_refl _) (.cells #[.slice (some ⟨w1.heap.size, 0, none⟩) 0 N] 27))
  simp only [World.size_alloc] at B2
  obtain ⟨W2, hW2⟩ : ∃ W2, (w1.alloc (.cells cs 25)).alloc (.cells #[.slice (some ⟨w1.heap.size, 0, none⟩) 0 N] 27) = W2 := ⟨_, rfl⟩
  have hsz2 := hid (show W2.heap.size = w1.heap.size + 2 by rw [← hW2]; simp)
  rw [hW2] at q2 B2 R3
  have HB2 := hid B2
  have HR3 := hid R3
  have Q2 := hid (Q1.out.trans (q2.mono Q1.out.size))
  clear q1 q2 B2 R2 R3 HR hcs
  gi_wp2_with fail
  refine (callsIn_free free_wide (top_any a L ca (N : Int) W2)).mono ?_
  rintro e w3 ⟨rfl, hw3⟩
  have q3 := (newA W2 (.cells #[.slice a L ca] 43)).alloc (by simp) (.cells #[.int .i64 (N : Int)] 3)
  have P3 := (Has.new W2 43 #[.slice a L ca]).alloc (.cells #[.int .i64 (N : Int)] 3)
  have N3 := Has.new (W2.alloc (.cells #[.slice a L ca] 43)) 3 #[.int .i64 (N : Int)]
  simp only [World.size_alloc] at N3
  rw [← hw3] at q3 P3 N3
  have hsz3 := hid (show w3.heap.size = W2.heap.size + 2 by rw [hw3]; simp)
  clear hw3
  have Q3 := hid (Q2.out.trans (q3.mono Q2.out.size))
  have HSEQ := hid (top_seq 7 (by omega) (.slice a L ca) s N (W2.heap.size + 1) W2.heap.size W.heap.size W w3 HS.out HN.out.1 (by have := HN.out; omega) rfl Q3.out (P3.cell 0 _ rfl) (N3.cell 0 _ rfl))
  have HST0 := hid (show PopSt W (w1.heap.size + 1) w1.heap.size w3.heap.size [W2.heap.size + 1, W2.heap.size] s 0 w3 from ⟨_, HB2.out.later q3, HR3.out.later q3, Q3.out, Nat.le_refl _, fun b hb => by
   simp at hb
   rcases hb with rfl | rfl
   ·exact ⟨_, _, by decide, N3⟩
   ·exact ⟨_, _, by decide, P3⟩⟩)
  have HQ1 := hid Q1.out.size
  clear q3 P3 N3
  gi_wp2_with fail
  refine wpIn_rangeFunc_N rfl (by omega) (gf := 28) (lb := #[.pointer (some ⟨W2.heap.size + 1, 0, none⟩), .pointer (some ⟨W2.heap.size, 0, none⟩)]) rfl trivial (enters_of Try.func28 (by kernel_rfl) rfl)
   HSEQ.out KpW.trans (KpW.b Q3.out.size (by intro b hb; simp at hb; have := hsz3.out; omega)) (fun _ _ => rfl)
   (fun k V => PopSt W (w1.heap.size + 1) w1.heap.size w3.heap.size [W2.heap.size + 1, W2.heap.size] s k V) (fun _ _ _ => False) (PopSt.own Q3.out.size) (fun _ => fun _ _ _ _ h => h.elim) HST0.out
   (fun k a' V => ∃ bx, w3.heap.size ≤ bx ∧ Has V bx 25 #[.int .u64 (lim (nthW s k) 0), .int .u64 (lim (nthW s k) 1), .int .u64 (lim (nthW s k) 2), .int .u64 (lim (nthW s k) 3)] ∧ a' = { tmps := #[Value.slice a L ca, Value.int IntKind.i64 ↑N, undef, undef, Value.slice none 0 0, Value.slice none 0 0, Value.int IntKind.i64 0, Value.int IntKind.i64 0, Value.pointer (some { block := w1.heap.size + 1, off := 0 }), .pointer (some ⟨bx, 0, none⟩), Value.slice a L ca, Value.int IntKind.i64 ↑N, Value.int IntKind.i64 0, Value.int IntKind.i64 0, Value.bool false, undef, undef, undef, Value.int IntKind.i64 ↑N, Value.slice (some { block := w1.heap.size, off := 0 }) 0 N, Value.slice a L ca, Value.int IntKind.i64 ↑N, .func (.func 28) #[] #[.pointer (some ⟨W2.heap.size + 1, 0, none⟩), .pointer (some ⟨W2.heap.size, 0, none⟩)], .agg #[.int .u64 (lim (nthW s k) 0), .int .u64 (lim (nthW s k) 1), .int .u64 (lim (nthW s k) 2), .int .u64 (lim (nthW s k) 3)], undef, undef, undef, undef, undef, undef, undef, undef, undef, undef, undef, undef], defers := [] })
   (fun k a' _ X Y row hs hg hr => by
    obtain ⟨bx, h1, h2, e⟩ := hs
    exact ⟨bx, h1, h2.ownW hg (fun r e => (hr r e).2), e⟩) ?assign ?body ?done ?stop
  case assign =>
   intro ll k V K hkN hst hK
   have HST := hid hst
   have HK := hid hK
   have qv := newA V (.cells #[.int .u64 (lim (nthW s k) 0), .int .u64 (lim (nthW s k) 1), .int .u64 (lim (nthW s k) 2), .int .u64 (lim (nthW s k) 3)] 25)
   have NV := Has.new V 25 #[.int .u64 (lim (nthW s k) 0), .int .u64 (lim (nthW s k) 1), .int .u64 (lim (nthW s k) 2), .int .u64 (lim (nthW s k) 3)]
   have Z0 := Has.new V 25 #[.int .u64 0, .int .u64 0, .int .u64 0, .int .u64 0]
   have z0 := Z0.cell 0 _ rfl
   have z1 := Z0.cell 1 _ rfl
   have z2 := Z0.cell 2 _ rfl
   have z3 := Z0.cell 3 _ rfl
   have y0 := Z0.frozen 0
   have y1 := Z0.frozen 1
   have y2 := Z0.frozen 2
   have y3 := Z0.frozen 3
   have HQV := hid qv
   have HNV := hid NV
   clear hst hK qv NV Z0 HST0
   gi_wp2_with fail
   obtain ⟨v, h1, h2, h3, h4, h5⟩ := HST.out
   have hv3 := Below.size h3
   refine HK.out _ _ ⟨HQV.out.size, fun b o _ ho _ => (HQV.out.block b (Array.getElem?_eq_some_iff.1 ho).1).trans ho⟩ (KpW.of_below h3.size (fun b hb => ?_) HQV.out) ⟨v, h1.later HQV.out, h2.later HQV.out, h3.trans (HQV.out.mono h3.size), Nat.le_trans h4 HQV.out.size, fun b hb => let ⟨t, cs, ht, h⟩ := h5 b hb; ⟨t, cs, ht, h.later HQV.out⟩⟩ ⟨V.heap.size, ?_, HNV.out, rfl⟩
   ·have := hsz3.out
    simp at hb
    omega
   ·exact h4
  case body =>
   rintro ll k a' V hll hlo hkN ⟨v, h1, h2, h3, h4, h5⟩ ⟨bx, hge, hbx, rfl⟩
   obtain ⟨R, hR⟩ : ∃ R, (List.range k).map (nthW s) = R := ⟨_, rfl⟩
   have hlen : R.length = k := by rw [← hR]; simp
   rw [hR] at h2
   obtain ⟨a0, c0, rfl⟩ := h2.shapeW
   rw [hlen] at h1 h2
   have hm := one_made V (nthW s k) (nthW_lt HALL.out k)
   have qa := newA V (.cells #[.int .u64 (lim (nthW s k) 0), .int .u64 (lim (nthW s k) 1), .int .u64 (lim (nthW s k) 2), .int .u64 (lim (nthW s k) 3)] 25)
   have hbase : w1.heap.size ≤ V.heap.size := by have := hsz2.out; have := hsz3.out; omega
   obtain ⟨v', w', happ, hrow, hgr, hbel⟩ := append_words (V.alloc (.cells #[.int .u64 (lim (nthW s k) 0), .int .u64 (lim (nthW s k) 1), .int .u64 (lim (nthW s k) 2), .int .u64 (lim (nthW s k) 3)] 25)) w1.heap.size (.slice a0 k c0) _ (h2.later qa) (Nat.le_trans hbase qa.size) _ [nthW s k] hm (by rw [List.length_singleton, hlen]; have := HN.out; omega)
   have hBt : Has w' (w1.heap.size + 1) 27 #[.slice a0 k c0] := (hgr.block _ (by have := (h1.later qa).lt; exact this) (fun e => by
    obtain ⟨_, cs', hcs'⟩ := (h2.later qa).blockW e.symm
    have h := (h1.later qa)
    unfold Has at h
    rw [h] at hcs'
    injection hcs' with hcs'
    injection hcs' with _ hcs' _
    exact absurd hcs' (by decide))).trans (h1.later qa)
   obtain ⟨a1, c1, rfl⟩ := hrow.shapeW
   have hlen2 : (R ++ [nthW s k]).length = k + 1 := by simp [hlen]
   rw [hlen2] at happ hrow
   have e0 := h1.cell 0 _ rfl
   have e1 := hbx.cell 0 _ rfl
   have e2 := hbx.cell 1 _ rfl
   have e3 := hbx.cell 2 _ rfl
   have e4 := hbx.cell 3 _ rfl
   have d0 := hBt.cell 0 _ rfl
   have d1 := hBt.frozen 0
   have HFIN := hid (show roundN w3.heap.size (KpW W.heap.size [W2.heap.size + 1, W2.heap.size]) (fun k V => PopSt W (w1.heap.size + 1) w1.heap.size w3.heap.size [W2.heap.size + 1, W2.heap.size] s k V) (fun _ _ _ => False) k V .normal { tmps := #[], defers := [] } (w'.setCell ⟨w1.heap.size + 1, 0, none⟩ (.slice a1 (k + 1) c1)) from by
    have hsV := qa.size
    have hz2 := hsz2.out
    have hz3 := hsz3.out
    have hQ1 := HQ1.out
    have hq2 := Q3.out.size
    have hgs := hgr.size
    have hown : ∀ r, Value.ownBlock (.slice a0 k c0) = some r → ∃ cs, V.heap[r]? = some (.cells cs 25 (0, 0)) ∧ w1.heap.size ≤ r := fun r e => by
     obtain ⟨h5, cs, h6⟩ := h2.blockW e
     exact ⟨cs, h6, h5⟩
    have keep : ∀ b o, b ≠ w1.heap.size + 1 → V.heap[b]? = some o → (∀ cs, o ≠ .cells cs 25 (0, 0)) → (w'.setCell ⟨w1.heap.size + 1, 0, none⟩ (.slice a1 (k + 1) c1)).heap[b]? = some o := fun b o hb ho hno => by
     have hbV := (Array.getElem?_eq_some_iff.1 ho).1
     refine (Below.heap_setCell w' ⟨w1.heap.size + 1, 0, none⟩ _ b hb).trans ((hgr.block b (by omega) (fun e => ?_)).trans ((qa.block b hbV).trans ho))
     obtain ⟨cs, h6, _⟩ := hown b e.symm
     rw [ho] at h6
     injection h6 with h6
     exact hno cs h6
    have low : ∀ b, b < W.heap.size → (w'.setCell ⟨w1.heap.size + 1, 0, none⟩ (.slice a1 (k + 1) c1)).heap[b]? = V.heap[b]? := fun b hb => by
     refine (Below.heap_setCell w' ⟨w1.heap.size + 1, 0, none⟩ _ b (by show b ≠ w1.heap.size + 1; omega)).trans ((hgr.block b (by omega) (fun e => ?_)).trans (qa.block b (by omega)))
     obtain ⟨cs, _, h7⟩ := hown b e.symm
     omega
    have size : V.heap.size ≤ (w'.setCell ⟨w1.heap.size + 1, 0, none⟩ (.slice a1 (k + 1) c1)).heap.size := by simp [World.setCell]; omega
    have hbw : Below W.heap.size V (w'.setCell ⟨w1.heap.size + 1, 0, none⟩ (.slice a1 (k + 1) c1)) := ⟨hgr.os.trans qa.os, hgr.tape.trans qa.tape, hgr.output.trans qa.output, size, low⟩
    refine ⟨⟨size, fun b o hb ho hc => keep b o (by omega) ho (fun cs e => by subst e; cases hc)⟩, ⟨hbw, fun b hb => ?_⟩, _, hBt.set 0 _, ?_, h3.trans hbw, Nat.le_trans h4 size, fun b hb => ?_⟩
    ·obtain ⟨t, cs, ht, h⟩ := h5 b hb
     refine (keep b _ (by simp at hb; omega) h (fun cs' e => ?_)).trans h.symm
     injection e with _ e _
     exact ht e
    ·rw [range_snoc, hR]
     refine ⟨hrow.1, ?_⟩
     rcases hrow.2 with h | ⟨g, cap, cur, h6, h7, h8, h9⟩
     ·exact .inl h
     ·refine .inr ⟨g, cap, cur, h6, h7, (Below.heap_setCell w' ⟨w1.heap.size + 1, 0, none⟩ _ g (fun e => ?_)).trans h8, h9⟩
      simp only at e
      subst e
      have hB' := hBt
      unfold Has at hB'
      rw [hB'] at h8
      injection h8 with h8
      injection h8 with _ h8 _
      exact absurd h8 (by decide)
    ·obtain ⟨t, cs, ht, h⟩ := h5 b hb
     refine ⟨t, cs, ht, keep b _ (by simp at hb; omega) h (fun cs' e => ?_)⟩
     injection e with _ e _
     exact ht e)
   have HAPP := hid happ
   clear hm qa hbase hrow hgr hbel hBt h1 h2 h3 h4 h5 hbx hge happ
   have happ := HAPP.out
   gi_wp2_with (gi_at_builtin; refine wpListIn_append_runW rfl (.tmp 24) (.tmp 26) 27 rfl _ _ _ rfl rfl happ ?_)
   exact HFIN.out
  case done =>
   rintro D V hD ⟨v, h1, h2, h3, h4, _⟩ hK
   have HK := hid hK
   have HV := hid h3
   have HRN := hid (show ∀ x ∈ (List.range N).map (nthW s), W256 x from fun x hx => by
    obtain ⟨i, _, rfl⟩ := List.mem_map.1 hx
    exact nthW_lt HALL.out i)
   have TK := hid (h2.keys HRN.out)
   have HB1 := hid h1
   obtain ⟨a0, c0, rfl⟩ := h2.shapeW
   generalize ((List.range N).map (nthW s)).length = tn at *
   have e0 : ∀ z : World, Below V.heap.size V z → z.cell? ⟨w1.heap.size + 1, 0, none⟩ = some (.slice a0 tn c0) := fun z hz => (HB1.out.later hz).cell 0 _ rfl
   have HE0 := hid e0
   have hLN : ((L - N : Nat) : Int) ≤ (L : Int) := by omega
   have hL0 : (0 : Int) ≤ ((L - N : Nat) : Int) := by omega
   have hLc : (L : Int) ≤ 10000 := by have := HN.out; have := HL.out; omega
   have hLN2 : L - N ≤ ca := by have := HNC.out; have := HL.out; omega
   have hsub := HSUB.out
   clear e0 h1 h2 h3 h4 hK HST0
   gi_wp2_with fail
   refine wpIn_region_ghost (c := [some (.slice a L ca), some (.slice a L ca), some (.int .i64 (L : Int)), some (.int .i64 (N : Int)), some (.int .i64 ((L - N : Nat) : Int)), some (.slice a (L - N) ca), none, some (.slice a0 tn c0), none, some (.slice a0 tn c0), some (.int .i64 0)]) free_wide (deps := [[], [], [1], [], [2, 3], [0, 4], [5], [], [0, 1, 2, 3, 4, 5, 6], [0, 1, 2, 3, 4, 5, 6, 7, 8], [0, 1, 2, 3, 4, 5, 6, 7, 8, 9]]) (U := UPop V (s.take (L - N))) hmx (by kernel_rfl) (by kernel_rfl) (fun f g w w' h hb => h.later hb) (fun f f' g g' w hh h => h.same (fun j hj => hh j (by rcases hj with rfl | rfl <;> rfl))) ⟨(Below.refl _ _).drew, by simp, by simp⟩ ?_
   rintro f g y hU0 Dn
   have hU := hid hU0
   have qy := hid hU0.1
   clear hU0
   have ey := HE0.out y qy.out
   refine GW.known _ rfl (fun hd hf => ?_) ?_
   ·go_wp2
    exact ⟨rfl, rfl, Below.refl _ _⟩
   simp only [Act.put, sT, sS, sZ]
   refine GW.known _ rfl (fun hd hf => ?_) ?_
   ·go_wp2
    exact ⟨rfl, rfl, Below.refl _ _⟩
   simp only [Act.put, sT, sS, sZ]
   refine GW.known _ rfl (fun hd hf => ?_) ?_
   ·go_wp2
    exact ⟨rfl, rfl, Below.refl _ _⟩
   simp only [Act.put, sT, sS, sZ]
   refine GW.known _ rfl (fun hd hf => ?_) ?_
   ·go_wp2
    exact ⟨rfl, rfl, Below.refl _ _⟩
   simp only [Act.put, sT, sS, sZ]
   refine GW.known _ rfl (fun hd hf => ?_) ?_
   ·go_wp2
    exact ⟨rfl, rfl, Below.refl _ _⟩
   simp only [Act.put, sT, sS, sZ]
   refine GW.known _ rfl (fun hd hf => ?_) ?_
   ·go_wp2
    exact ⟨rfl, rfl, Below.refl _ _⟩
   simp only [Act.put, sT, sS, sZ]
   refine GW.open rfl (fun hd hf => ?_) ?_
   ·have f8 : f 8 = false := by
     cases h : f 8 with
     | false => rfl
     | true => have := Dn 8 h 6 (by decide); rw [hf] at this; cases this
    go_wp2_with fail
    refine (HCT.out y (HV.out.trans (qy.out.mono HV.out.size))).mono ?_
    rintro e u ⟨v', rfl, k2, q2⟩
    go_wp2
    exact ⟨rfl, hU.out.n6 q2 f8 k2⟩
   simp only [Act.put, sT, sS, sZ]
   refine GW.known _ rfl (fun hd hf => ?_) ?_
   ·go_wp2
    exact ⟨rfl, rfl, Below.refl _ _⟩
   simp only [Act.put, sT, sS, sZ]
   refine GW.open rfl (fun hd hf => ?_) ?_
   ·go_wp2
    exact ⟨rfl, hU.out.n8 (hd 6 (by decide))⟩
   simp only [Act.put, sT, sS, sZ]
   refine GW.known _ rfl (fun hd hf => ?_) ?_
   ·go_wp2
    exact ⟨rfl, rfl, Below.refl _ _⟩
   simp only [Act.put, sT, sS, sZ]
   refine GW.known _ rfl (fun hd hf => ?_) ?_
   ·go_wp2
    exact ⟨rfl, rfl, Below.refl _ _⟩
   simp only [Act.put, sT, sS, sZ]
   refine GW.nil (fun hall => ?_)
   obtain ⟨h6, e8⟩ := hU.out.2.2 (hall 8 (by omega))
   have K6 := hid (hU.out.2.1 h6)
   have hK' := hid ((qy.out.block D (Array.getElem?_eq_some_iff.1 HK.out).1).trans HK.out)
   rw [e8]
   clear hU Dn hall h6 e8 ey
   generalize g 6 = v6 at *
   gi_wp2_with fail
   refine ⟨by simp, .inl ⟨_, _, rfl, run_takeDeferred hK'.out, ?_⟩⟩
   have hkeep : ∀ o' (a : Addr) (u : Value), y.cell? a = some u → (y.putObj D o').cell? a = some u := fun o' a u h => by
    have hne : a.block ≠ D := fun e => by
     subst e
     unfold World.cell? at h
     rw [hK'.out] at h
     cases h
    refine (World.cell?_of_block (World.putObj_heap_other hne)).trans h
   refine ⟨.tuple #[v6, .slice a0 tn c0, .int .i64 0], (by simp [results, Try.f17, go_sem]), ?_⟩
   exact hfin2.out _ _ _ H0.out (by rw [HL.out]; exact K6.out.keep (hkeep _)) ((TK.out.later qy.out).keep (hkeep _)) ((HV.out.trans (qy.out.mono HV.out.size)).trans (KpW.b Q3.out.size (L := []) (by simp) _ D _ _ hD hK'.out rfl rfl).1)
  case stop =>
   rintro D c k V hD hkN h hK
   exact h.elim
 ·obtain ⟨c, hc⟩ : ∃ c, askN s.length k 0 0 = c := ⟨_, rfl⟩
  have hcn : c ≠ 0 := by rw [← hc]; exact c0
  rw [hc] at HR
  have HF := hid (fun v' w' => hfin.out v' w' c hc hcn)
  clear c0 hfin hfin2 hc hnc hcm
  generalize hn : s.length = n at *
  clear hn hk
  go_enter Try.func17, Try.ntmps17
  go_wp2_with fail
  refine (HR.out _).mono ?_
  rintro e w1 ⟨rfl, q1⟩
  go_wp2_with fail
  refine (HC.out _ q1).mono ?_
  rintro e w2 ⟨v', rfl, k2, q2⟩
  go_wp2
  go_ret3
  exact HF.out _ _ k2 (q1.trans (q2.mono q1.size))
end Go.Proofs.Ythfghmodfpddpaa
