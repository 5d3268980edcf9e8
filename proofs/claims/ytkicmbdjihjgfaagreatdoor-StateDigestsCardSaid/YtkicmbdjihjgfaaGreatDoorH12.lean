/- Part. -/
import Derived.Test.YtkicmbdjihjgfaaGreatDoorH11
set_option maxRecDepth 100000
set_option maxHeartbeats 16000000
namespace Go.Proofs.YtkicmbdjihjgfaaGreatDoor
open Go Go.RowKit
attribute [local go_sem] Oper.semAt_some Grows wide_fn
def StK (w : World) (v : Value) (l : List Ac) : Prop := ∃ lo, ∃ ps : List Pa, ps.map (·.1) = l ∧ RowA w lo v ps ∧ ∀ p ∈ ps, AcOk p.1 ∧ RowT w lo p.2 p.1.slots ∧ ∀ y ∈ p.1.slots, W256 y.1 ∧ W256 y.2
theorem StK.st {w : World} {v : Value} {l : List Ac} (h : StK w v l) : StAt w v l := by
 obtain ⟨lo, ps, h1, h2, h3⟩ := h
 rw [← h1]
 exact h2.in.st (fun p hp => ⟨(h3 p hp).1, (h3 p hp).2.1.slots (h3 p hp).2.2⟩)
theorem StK.later {w w' : World} {v : Value} {l : List Ac} (h : StK w v l) (hb : Below w.heap.size w w') : StK w' v l := by
 obtain ⟨lo, ps, h1, h2, h3⟩ := h
 exact ⟨lo, ps, h1, h2.later hb, fun p hp => ⟨(h3 p hp).1, (h3 p hp).2.1.later hb, (h3 p hp).2.2⟩⟩
theorem StK.row {w : World} {v : Value} {l : List Ac} (h : StK w v l) {B : Nat} {t : TypeId} {cs : Array Value} (hB : Has w B t cs) (ht : t ≠ 31 ∧ t ≠ 63) (u : Array Value) : StK (w.setRow B u) v l := by
 obtain ⟨lo, ps, h1, h2, h3⟩ := h
 refine ⟨lo, ps, h1, h2.keep fun b c _ hb => (setRow_other w B b u (fun e => by
  subst e
  have := hB.symm.trans hb
  injection this with this
  injection this with _ this _
  exact absurd this ht.1)).trans hb, fun p hp => ⟨(h3 p hp).1, (h3 p hp).2.1.keep fun b c _ hb => (setRow_other w B b u (fun e => by
  subst e
  have := hB.symm.trans hb
  injection this with this
  injection this with _ this _
  exact absurd this ht.2)).trans hb, (h3 p hp).2.2⟩⟩
def PutS (W : World) (l : List Ac) (x : Ac) (e : Ending) (w' : World) : Prop :=
 ((mayB x = false ∧ e = .returned (.tuple #[.slice none 0 0, .int .i64 1])) ∨ (mayB x = true ∧ ¬ (putA l x).length ≤ 200 ∧ e = .returned (.tuple #[.slice none 0 0, .int .i64 2])) ∨ (mayB x = true ∧ (putA l x).length ≤ 200 ∧ ∃ v, e = .returned (.tuple #[v, .int .i64 0]) ∧ StK w' v (putA l x))) ∧ Below W.heap.size W w'
theorem RowIn.takeN {W : World} {a : Option Addr} {n cap : Nat} {ps : List Pa} (h : RowIn W (.slice a n cap) ps) (k : Nat) (hk : k ≤ n) : RowIn W (.slice a k cap) (ps.take k) := by
 obtain ⟨a', cap', e, h2, h3, h5⟩ := h
 injection e with e1 e2 e3
 subst e1 e2 e3
 refine ⟨_, _, by rw [List.length_take, Nat.min_eq_left hk], by rw [List.length_take]; omega, h3, fun i p hp => ?_⟩
 rw [List.getElem?_take] at hp
 split at hp
 ·exact h5 i p hp
 ·cases hp
theorem RowIn.dropN {W : World} {a : Option Addr} {n cap : Nat} {ps : List Pa} (h : RowIn W (.slice a n cap) ps) (k : Nat) (hk : k ≤ n) : RowIn W (.slice (Option.map (fun x => x.add (k * 27)) a) (n - k) (cap - k)) (ps.drop k) := by
 obtain ⟨a', cap', e, h2, h3, h5⟩ := h
 injection e with e1 e2 e3
 subst e1 e2 e3
 refine ⟨_, _, by rw [List.length_drop], by rw [List.length_drop]; omega, by omega, fun i p hp => ?_⟩
 rw [List.getElem?_drop] at hp
 obtain ⟨b, e, hc⟩ := h5 (k + i) p hp
 refine ⟨b.add (k * 27), by rw [e]; rfl, fun j u hj => ?_⟩
 have := hc j u hj
 have e2 : (b.add (k * 27)).add (i * 27) = b.add ((k + i) * 27) := by
  rw [Addr.add_add]
  congr 1
  omega
 rw [e2]
 exact this
theorem RowIn.dropNE {W : World} {a : Option Addr} {n cap : Nat} {ps : List Pa} (h : RowIn W (.slice a n cap) ps) (k : Nat) (hn : n ≤ k) : RowIn W (.slice a (n - k) 0) (ps.drop k) := by
 obtain ⟨a', cap', e, h2, h3, h5⟩ := h
 injection e with e1 e2 e3
 subst e1 e2 e3
 have : ps.drop k = [] := List.drop_eq_nil_of_le hn
 rw [this]
 exact ⟨a, 0, by rw [show ps.length - k = 0 by omega]; rfl, by simp, by omega, fun i p hp => by simp at hp⟩
theorem mem_putA {l : List Ac} {x y : Ac} (h : y ∈ putA l x) : y ∈ l ∨ y = x := by
 unfold putA at h
 rcases List.mem_append.1 h with h | h
 ·rcases List.mem_append.1 h with h | h
  ·exact .inl (List.mem_filter.1 h).1
  ·split at h
   ·cases h
   ·simp at h; exact .inr h
 ·exact .inl (List.mem_filter.1 h).1
theorem put_ac (W : World) (sv : Value) (l : List Ac) (hs : StAt W sv l) (hu : Ups l) (hl : l.length ≤ 99000) (hsl : ∀ y ∈ l, y.slots.length ≤ 100000) (x : Ac) (sx : Value) (hx : AcOk x) (hsx : SlotsAt W sx x.slots) (hxl : x.slots.length ≤ 100000) :
  Calls Tryz.prog 39 #[sv, .agg (acC x sx)] W (PutS W l x) := by
 have hmx : Tryz.prog.follows .mixedOrders = true := by kernel_rfl
 obtain ⟨Post, hPost⟩ : ∃ Post : Ending → World → Prop, PutS W l x = Post := ⟨_, rfl⟩
 have HP1 := hid (show ∀ w', mayB x = false → Below W.heap.size W w' → Post (.returned (.tuple #[.slice none 0 0, .int .i64 1])) w' from fun w' h1 h2 => by rw [← hPost]; exact ⟨.inl ⟨h1, rfl⟩, h2⟩)
 have HP2 := hid (show ∀ w', mayB x = true → ¬ (putA l x).length ≤ 200 → Below W.heap.size W w' → Post (.returned (.tuple #[.slice none 0 0, .int .i64 2])) w' from fun w' h1 h3 h2 => by rw [← hPost]; exact ⟨.inr (.inl ⟨h1, h3, rfl⟩), h2⟩)
 have HP3 := hid (show ∀ w' v, mayB x = true → (putA l x).length ≤ 200 → StK w' v (putA l x) → Below W.heap.size W w' → Post (.returned (.tuple #[v, .int .i64 0])) w' from fun w' v h1 h3 h4 h2 => by rw [← hPost]; exact ⟨.inr (.inr ⟨h1, h3, v, rfl, h4⟩), h2⟩)
 rw [hPost]
 clear hPost
 obtain ⟨sa, sc, rfl, _, _⟩ := hsx.shape
 obtain ⟨cx, hcx⟩ : ∃ cx, acC x (.slice sa x.slots.length sc) = cx := ⟨_, rfl⟩
 have hB := Has.new W 31 cx
 have hq0 := newA W (.cells cx 31)
 obtain ⟨V, hV⟩ : ∃ V, W.alloc (.cells cx 31) = V := ⟨_, rfl⟩
 have hbox : ∀ X, Below V.heap.size V X → Has X W.heap.size 31 (acC x (.slice sa x.slots.length sc)) := fun X hX => by
  rw [hcx]
  rw [hV] at hB
  exact hB.later hX
 have HBX := hid hbox
 have Q0 := hid (show Below W.heap.size W V by rw [← hV]; exact hq0)
 have HM := hid (may_any V x (.slice sa x.slots.length sc) hx (hsx.later Q0.out))
 have HS := hid hs
 have HSX := hid hsx
 have HOK := hid hx
 have HU := hid hu
 have HSL := hid hsl
 have HXL := hid hxl
 have hl0 := (hbox V (Below.refl _ _)).accLoad
 obtain ⟨a, cap, rfl, hnc, hcm⟩ := hs.shape
 obtain ⟨n, hn⟩ : ∃ n, l.length = n := ⟨_, rfl⟩
 rw [hn] at hnc hl
 have HN := hid hn
 have HL := hid hl
 have HCAP := hid (And.intro hnc hcm)
 rw [hn] at HS ⊢
 rw [hcx] at HM hl0 ⊢
 have HCX := hid hcx
 clear hs hu hsl hxl hx hsx hbox hnc hcm hn hl hB hq0 hcx
 generalize hm : mayB x = mb at *
 go_enter Tryz.func39, Tryz.ntmps39
 go_wp2_with (refine wpList_load_known rfl _ (.tmp 3) rfl _ rfl _ hl0 ?_)
 refine HM.out.mono ?_
 rintro _ w1 ⟨rfl, q1⟩
 have Q1 := hid q1
 have QW1 := hid (Q0.out.trans (q1.mono Q0.out.size))
 clear q1 HM hl0 hV
 cases mb
 ·go_wp2_with fail
  exact HP1.out _ (by first | rfl | trivial | exact hm) QW1.out
 ·have ha1 := (HBX.out w1 Q1.out).accAdLoad
  have HF := hid (search_any w1 _ l (HS.out.later QW1.out) HU.out x.at_ HOK.out.at_ (by have := HN.out; have := HL.out; omega))
  have hm' := hid hm
  clear hm
  generalize adC x.at_ = cd at *
  go_wp2_with (refine wpList_load_known rfl _ (.tmp 15) rfl _ rfl _ ha1 ?_)
  refine HF.out.mono ?_
  rintro _ w2 ⟨k, hsk, ⟨is, his, rfl⟩, q2⟩
  have HSK := hid hsk
  have HIS := hid his
  have Q2 := hid (Q1.out.trans (q2.mono Q1.out.size))
  have QW2 := hid (QW1.out.trans (q2.mono QW1.out.size))
  have hkn : (k : Int) ≤ (n : Int) := by have := hsk.1; have := HN.out; omega
  have hnb : (n : Int) ≤ 99000 := by have := HL.out; omega
  have hk0 : (0 : Int) ≤ (k : Int) := by omega
  clear hsk his q2 ha1 HF
  have hl2 := (HBX.out w2 Q2.out).accLoad
  rw [HCX.out] at hl2
  have HE := hid (empty_any w2 x (.slice sa x.slots.length sc) HOK.out (HSX.out.later QW2.out))
  rw [HCX.out] at HE
  obtain ⟨d, hd, hdi⟩ : ∃ d : Nat, ((∃ y, l[k]? = some y ∧ y.at_ = x.at_) ∧ d = 1 ∨ (¬ ∃ y, l[k]? = some y ∧ y.at_ = x.at_) ∧ d = 0) ∧ d = (if is then 1 else 0) := by
   cases is
   ·exact ⟨0, .inr ⟨fun h => absurd (HIS.out.2 h) (by simp), rfl⟩, rfl⟩
   ·exact ⟨1, .inl ⟨HIS.out.1 rfl, rfl⟩, rfl⟩
  have HPA := hid (putA_seek HSK.out HU.out d hd)
  have hkd : ((k + d : Nat) : Int) ≤ (n : Int) := by
   rcases hd with ⟨⟨y, hy, _⟩, rfl⟩ | ⟨_, rfl⟩
   ·have := (List.getElem?_eq_some_iff.1 hy).1; have := HN.out; omega
   ·omega
  clear hd
  generalize hem : emptyB x = em at *
  have HEM := hid hem
  clear hem
  cases is <;> cases em
  ·-- is = False, empty = False
   obtain rfl : d = 0 := by simpa using hdi
   clear hdi
   have HLEN := hid (show (putA l x).length = n - 0 + 1 by
    rw [HPA.out]
    simp only [List.length_append, List.length_take, List.length_drop]
    have := HN.out
    simp
    omega)
   go_wp2_with (refine wpList_load_known rfl _ (.tmp 3) rfl _ rfl _ hl2 ?_)
   refine HE.out.mono ?_
   rintro _ w3 ⟨rfl, q3⟩
   have Q3 := hid (Q2.out.trans (q3.mono Q2.out.size))
   have QW3 := hid (QW2.out.trans (q3.mono QW2.out.size))
   clear q3 hl2 HE
   have hl3 := (HBX.out w3 Q3.out).accLoad
   rw [HCX.out] at hl3
   obtain ⟨v4, w4, happ, hrow4, _, q4⟩ := push_ac w3 w3.heap.size (.slice none 0 0) [] (RowA.nil _ _) (Nat.le_refl _) (by simp) x (.slice sa x.slots.length sc) rfl
   rw [HCX.out] at happ
   obtain ⟨a4, c4, rfl⟩ := hrow4.shape
   have QW4 := hid (QW3.out.trans (q4.mono QW3.out.size))
   have R4 := hid hrow4.in
   simp only [List.nil_append, List.length_cons, List.length_nil, Nat.zero_add] at R4 happ
   have q4h := hid q4
   clear hrow4 q4
   by_cases h200 : n - 0 + 1 ≤ 200
   ·have h2I : (n : Int) - 0 + 1 ≤ 200 := by omega
    go_wp2_with (first | (refine wpList_load_known rfl _ (.tmp 3) rfl _ rfl _ hl3 ?_) | (refine wpList_build_ac rfl (.tmp 28) rfl x (.slice sa x.slots.length sc) (by rw [HCX.out]; rfl) ?_; rw [HCX.out]) | (at_builtin; refine wpList_append_run rfl (.tmp 27) (.tmp 29) 22 rfl _ _ _ rfl rfl happ ?_))
    have hncI : (n : Int) ≤ (cap : Int) := by have := HCAP.out.1; omega
    have hcmI : (cap : Int) ≤ 9223372036854775807 := by have := HCAP.out.2; omega
    have hkc : (k : Int) ≤ (cap : Int) := by omega
    have hkc1 : (k : Int) + 0 ≤ (n : Int) := by omega
    clear hkc1
    have HPS := hid (HS.out.later QW3.out).pairs
    have hkdI : (k : Int) ≤ (n : Int) := by omega
    have hH := hid (show (putA l x).length ≤ 200 by rw [HLEN.out]; exact h200)
    clear h200 h2I hkd
    replace happ := hid happ
    by_cases hck : cap = k
    ·replace hck := hck.symm; subst hck
     refine wp_region_mix (C := Grows w4) [some true, some true, some true, some true, some true, some true, some true, none, none, none, none, none] hmx (by kernel_rfl) (by kernel_rfl) (grows_refl w4) ?_
     simp only [headOf, tailOf]
     repeat (go_big_quiet_step (fail))
     refine wpQuiet_nil ?_
     rintro _ ⟨y, rfl⟩
     go_wp2_with fail
     obtain ⟨ps, hps, hrin, hpa⟩ := HPS.out
     have QY := QW4.out.trans (y.below.mono QW4.out.size)
     have QY3 : Below w3.heap.size w3 y.w := q4h.out.trans (y.below.mono q4h.out.size)
     have hNps : ps.length = n := by rw [← HN.out, ← hps, List.length_map]
     have NB := Has.new y.w 22 #[.slice a k k, (.slice a4 1 c4), (.slice a (n - k) 0)]
     have qn := newA y.w (.cells #[.slice a k k, (.slice a4 1 c4), (.slice a (n - k) 0)] 22)
     have r1 := (((hrin.takeN k (by have := HSK.out.1; have := HN.out; omega)).later QY3).later qn)
     have r2 := ((R4.out).later y.below).later qn
     have r3 : RowIn _ (.slice a (n - k) 0) (ps.drop k) := (((hrin.dropNE k (by omega)).later QY3).later qn)
     have hone : ∀ p ∈ ps, p.2.oneCell' = true := fun p hp => by
      obtain ⟨_, _, e, _, _⟩ := (hpa p hp).2.shape
      rw [e]
      rfl
     have hsum : sumL [(Value.slice a k k, ps.take k), ((.slice a4 1 c4), [(x, .slice sa x.slots.length sc)]), ((.slice a (n - k) 0), ps.drop k)] ≤ 100000 := by
      simp [sumL, hNps]
      have := HL.out
      omega
     have hcat : (catL [(Value.slice a k k, ps.take k), ((.slice a4 1 c4), [(x, .slice sa x.slots.length sc)]), ((.slice a (n - k) 0), ps.drop k)]).map (·.1) = putA l x := by
      rw [HPA.out, ← hps]
      simp [catL]
     refine (concat_any _ y.w.heap.size [(.slice a k k, ps.take k), ((.slice a4 1 c4), [(x, .slice sa x.slots.length sc)]), ((.slice a (n - k) 0), ps.drop k)] (fun i q hq => by
      obtain rfl | rfl | rfl : i = 0 ∨ i = 1 ∨ i = 2 := by
       have := (List.getElem?_eq_some_iff.1 hq).1
       simp at this
       omega
      ·injection hq with hq
       subst hq
       exact ⟨NB.cell 0 _ rfl, r1, fun p hp => hone p (List.mem_of_mem_take hp)⟩
      ·injection hq with hq
       subst hq
       exact ⟨NB.cell 1 _ rfl, r2, fun p hp => by simp at hp; subst hp; rfl⟩
      ·injection hq with hq
       subst hq
       exact ⟨NB.cell 2 _ rfl, r3, fun p hp => hone p (List.mem_of_mem_drop hp)⟩) (by simp) hsum).mono ?_
     rintro _ w5 ⟨v5, rfl, hrow5, q5⟩
     have Q53 := (QY3.trans (qn.mono QY3.size)).trans (q5.mono (QY3.trans (qn.mono QY3.size)).size)
     have QW5 := hid ((QY.trans (qn.mono QY.size)).trans (q5.mono (QY.trans (qn.mono QY.size)).size))
     have hst := hrow5.in.st (fun p hp => by
      have : p ∈ ps ∨ p ∈ [(x, .slice sa x.slots.length sc)] := by
       simp only [catL, List.flatMap_cons, List.flatMap_nil, List.append_nil, List.mem_append] at hp
       rcases hp with h | h | h
       ·exact .inl (List.mem_of_mem_take h)
       ·exact .inr h
       ·exact .inl (List.mem_of_mem_drop h)
      rcases this with h | h
      ·exact ⟨(hpa p h).1, (hpa p h).2.later Q53⟩
      ·simp at h
       subst h
       exact ⟨HOK.out, HSX.out.later QW5.out⟩)
     rw [hcat] at hst
     have HC := hid (copied_any w5 v5 _ hst (by have := hH.out; omega) (fun z hz => by
      rcases mem_putA hz with h | rfl
      ·exact HSL.out z h
      ·exact HXL.out))
     clear hst hcat hsum hone r1 r2 r3 NB qn QY QY3 hrin hpa hrow5 q5 Q53 hNps hps
     go_wp2_with fail
     refine HC.out.mono ?_
     rintro _ w6 ⟨v6, qs, rfl, hqs, hrow6, hall, q6⟩
     have QW6 := QW5.out.trans (q6.mono QW5.out.size)
     have hfin := HP3.out w6 v6 (by first | rfl | trivial) hH.out ⟨_, qs, hqs, hrow6, hall⟩ QW6
     clear hqs hrow6 hall q6 HC
     go_wp2
     rw [calmPost_normal]
     go_wp2
     exact hfin
    ·have hckI : ¬ (cap : Int) = (k : Int) := by omega
     refine wp_region_mix (C := Grows w4) [some true, some true, some true, some true, some true, some true, some true, none, none, none, none, none] hmx (by kernel_rfl) (by kernel_rfl) (grows_refl w4) ?_
     simp only [headOf, tailOf]
     repeat (go_big_quiet_step (fail))
     refine wpQuiet_nil ?_
     rintro _ ⟨y, rfl⟩
     go_wp2_with fail
     obtain ⟨ps, hps, hrin, hpa⟩ := HPS.out
     have QY := QW4.out.trans (y.below.mono QW4.out.size)
     have QY3 : Below w3.heap.size w3 y.w := q4h.out.trans (y.below.mono q4h.out.size)
     have hNps : ps.length = n := by rw [← HN.out, ← hps, List.length_map]
     have NB := Has.new y.w 22 #[.slice a k cap, (.slice a4 1 c4), (.slice (Option.map (fun x => x.add (k * 27)) a) (n - k) (cap - k))]
     have qn := newA y.w (.cells #[.slice a k cap, (.slice a4 1 c4), (.slice (Option.map (fun x => x.add (k * 27)) a) (n - k) (cap - k))] 22)
     have r1 := (((hrin.takeN k (by have := HSK.out.1; have := HN.out; omega)).later QY3).later qn)
     have r2 := ((R4.out).later y.below).later qn
     have r3 : RowIn _ (.slice (Option.map (fun x => x.add (k * 27)) a) (n - k) (cap - k)) (ps.drop k) := (((hrin.dropN k (by omega)).later QY3).later qn)
     have hone : ∀ p ∈ ps, p.2.oneCell' = true := fun p hp => by
      obtain ⟨_, _, e, _, _⟩ := (hpa p hp).2.shape
      rw [e]
      rfl
     have hsum : sumL [(Value.slice a k cap, ps.take k), ((.slice a4 1 c4), [(x, .slice sa x.slots.length sc)]), ((.slice (Option.map (fun x => x.add (k * 27)) a) (n - k) (cap - k)), ps.drop k)] ≤ 100000 := by
      simp [sumL, hNps]
      have := HL.out
      omega
     have hcat : (catL [(Value.slice a k cap, ps.take k), ((.slice a4 1 c4), [(x, .slice sa x.slots.length sc)]), ((.slice (Option.map (fun x => x.add (k * 27)) a) (n - k) (cap - k)), ps.drop k)]).map (·.1) = putA l x := by
      rw [HPA.out, ← hps]
      simp [catL]
     refine (concat_any _ y.w.heap.size [(.slice a k cap, ps.take k), ((.slice a4 1 c4), [(x, .slice sa x.slots.length sc)]), ((.slice (Option.map (fun x => x.add (k * 27)) a) (n - k) (cap - k)), ps.drop k)] (fun i q hq => by
      obtain rfl | rfl | rfl : i = 0 ∨ i = 1 ∨ i = 2 := by
       have := (List.getElem?_eq_some_iff.1 hq).1
       simp at this
       omega
      ·injection hq with hq
       subst hq
       exact ⟨NB.cell 0 _ rfl, r1, fun p hp => hone p (List.mem_of_mem_take hp)⟩
      ·injection hq with hq
       subst hq
       exact ⟨NB.cell 1 _ rfl, r2, fun p hp => by simp at hp; subst hp; rfl⟩
      ·injection hq with hq
       subst hq
       exact ⟨NB.cell 2 _ rfl, r3, fun p hp => hone p (List.mem_of_mem_drop hp)⟩) (by simp) hsum).mono ?_
     rintro _ w5 ⟨v5, rfl, hrow5, q5⟩
     have Q53 := (QY3.trans (qn.mono QY3.size)).trans (q5.mono (QY3.trans (qn.mono QY3.size)).size)
     have QW5 := hid ((QY.trans (qn.mono QY.size)).trans (q5.mono (QY.trans (qn.mono QY.size)).size))
     have hst := hrow5.in.st (fun p hp => by
      have : p ∈ ps ∨ p ∈ [(x, .slice sa x.slots.length sc)] := by
       simp only [catL, List.flatMap_cons, List.flatMap_nil, List.append_nil, List.mem_append] at hp
       rcases hp with h | h | h
       ·exact .inl (List.mem_of_mem_take h)
       ·exact .inr h
       ·exact .inl (List.mem_of_mem_drop h)
      rcases this with h | h
      ·exact ⟨(hpa p h).1, (hpa p h).2.later Q53⟩
      ·simp at h
       subst h
       exact ⟨HOK.out, HSX.out.later QW5.out⟩)
     rw [hcat] at hst
     have HC := hid (copied_any w5 v5 _ hst (by have := hH.out; omega) (fun z hz => by
      rcases mem_putA hz with h | rfl
      ·exact HSL.out z h
      ·exact HXL.out))
     clear hst hcat hsum hone r1 r2 r3 NB qn QY QY3 hrin hpa hrow5 q5 Q53 hNps hps
     go_wp2_with fail
     refine HC.out.mono ?_
     rintro _ w6 ⟨v6, qs, rfl, hqs, hrow6, hall, q6⟩
     have QW6 := QW5.out.trans (q6.mono QW5.out.size)
     have hfin := HP3.out w6 v6 (by first | rfl | trivial) hH.out ⟨_, qs, hqs, hrow6, hall⟩ QW6
     clear hqs hrow6 hall q6 HC
     go_wp2
     rw [calmPost_normal]
     go_wp2
     exact hfin
   ·have h2I : ¬ (n : Int) - 0 + 1 ≤ 200 := by omega
    have hH := hid (show ¬ (putA l x).length ≤ 200 by rw [HLEN.out]; exact h200)
    clear h200
    go_wp2_with (first | (refine wpList_load_known rfl _ (.tmp 3) rfl _ rfl _ hl3 ?_) | (refine wpList_build_ac rfl (.tmp 28) rfl x (.slice sa x.slots.length sc) (by rw [HCX.out]; rfl) ?_; rw [HCX.out]) | (at_builtin; refine wpList_append_run rfl (.tmp 27) (.tmp 29) 22 rfl _ _ _ rfl rfl happ ?_))
    exact HP2.out _ (by first | rfl | trivial) hH.out QW4.out
  ·-- is = False, empty = True
   obtain rfl : d = 0 := by simpa using hdi
   clear hdi
   have HLEN := hid (show (putA l x).length = n - 0 + 0 by
    rw [HPA.out]
    simp only [List.length_append, List.length_take, List.length_drop]
    have := HN.out
    simp
    omega)
   go_wp2_with (refine wpList_load_known rfl _ (.tmp 3) rfl _ rfl _ hl2 ?_)
   refine HE.out.mono ?_
   rintro _ w3 ⟨rfl, q3⟩
   have Q3 := hid (Q2.out.trans (q3.mono Q2.out.size))
   have QW3 := hid (QW2.out.trans (q3.mono QW2.out.size))
   clear q3 hl2 HE
   by_cases h200 : n - 0 + 0 ≤ 200
   ·have h2I : (n : Int) - 0 + 0 ≤ 200 := by omega
    go_wp2_with fail
    have hncI : (n : Int) ≤ (cap : Int) := by have := HCAP.out.1; omega
    have hcmI : (cap : Int) ≤ 9223372036854775807 := by have := HCAP.out.2; omega
    have hkc : (k : Int) ≤ (cap : Int) := by omega
    have hkc1 : (k : Int) + 0 ≤ (n : Int) := by omega
    clear hkc1
    have HPS := hid (HS.out.later QW3.out).pairs
    have hkdI : (k : Int) ≤ (n : Int) := by omega
    have hH := hid (show (putA l x).length ≤ 200 by rw [HLEN.out]; exact h200)
    clear h200 h2I hkd
    by_cases hck : cap = k
    ·replace hck := hck.symm; subst hck
     refine wp_region_mix (C := Grows w3) [some true, some true, some true, some true, some true, some true, some true, none, none, none, none, none] hmx (by kernel_rfl) (by kernel_rfl) (grows_refl w3) ?_
     simp only [headOf, tailOf]
     repeat (go_big_quiet_step (fail))
     refine wpQuiet_nil ?_
     rintro _ ⟨y, rfl⟩
     go_wp2_with fail
     obtain ⟨ps, hps, hrin, hpa⟩ := HPS.out
     have QY := QW3.out.trans (y.below.mono QW3.out.size)
     have QY3 : Below w3.heap.size w3 y.w := y.below
     have hNps : ps.length = n := by rw [← HN.out, ← hps, List.length_map]
     have NB := Has.new y.w 22 #[.slice a k k, (.slice none 0 0), (.slice a (n - k) 0)]
     have qn := newA y.w (.cells #[.slice a k k, (.slice none 0 0), (.slice a (n - k) 0)] 22)
     have r1 := (((hrin.takeN k (by have := HSK.out.1; have := HN.out; omega)).later QY3).later qn)
     have r2 := (((RowA.nil w3 0).in).later y.below).later qn
     have r3 : RowIn _ (.slice a (n - k) 0) (ps.drop k) := (((hrin.dropNE k (by omega)).later QY3).later qn)
     have hone : ∀ p ∈ ps, p.2.oneCell' = true := fun p hp => by
      obtain ⟨_, _, e, _, _⟩ := (hpa p hp).2.shape
      rw [e]
      rfl
     have hsum : sumL [(Value.slice a k k, ps.take k), ((.slice none 0 0), ([] : List Pa)), ((.slice a (n - k) 0), ps.drop k)] ≤ 100000 := by
      simp [sumL, hNps]
      have := HL.out
      omega
     have hcat : (catL [(Value.slice a k k, ps.take k), ((.slice none 0 0), ([] : List Pa)), ((.slice a (n - k) 0), ps.drop k)]).map (·.1) = putA l x := by
      rw [HPA.out, ← hps]
      simp [catL]
     refine (concat_any _ y.w.heap.size [(.slice a k k, ps.take k), ((.slice none 0 0), ([] : List Pa)), ((.slice a (n - k) 0), ps.drop k)] (fun i q hq => by
      obtain rfl | rfl | rfl : i = 0 ∨ i = 1 ∨ i = 2 := by
       have := (List.getElem?_eq_some_iff.1 hq).1
       simp at this
       omega
      ·injection hq with hq
       subst hq
       exact ⟨NB.cell 0 _ rfl, r1, fun p hp => hone p (List.mem_of_mem_take hp)⟩
      ·injection hq with hq
       subst hq
       exact ⟨NB.cell 1 _ rfl, r2, fun p hp => by simp at hp⟩
      ·injection hq with hq
       subst hq
       exact ⟨NB.cell 2 _ rfl, r3, fun p hp => hone p (List.mem_of_mem_drop hp)⟩) (by simp) hsum).mono ?_
     rintro _ w5 ⟨v5, rfl, hrow5, q5⟩
     have Q53 := (QY3.trans (qn.mono QY3.size)).trans (q5.mono (QY3.trans (qn.mono QY3.size)).size)
     have QW5 := hid ((QY.trans (qn.mono QY.size)).trans (q5.mono (QY.trans (qn.mono QY.size)).size))
     have hst := hrow5.in.st (fun p hp => by
      have : p ∈ ps ∨ p ∈ ([] : List Pa) := by
       simp only [catL, List.flatMap_cons, List.flatMap_nil, List.append_nil, List.mem_append] at hp
       rcases hp with h | h | h
       ·exact .inl (List.mem_of_mem_take h)
       ·exact .inr h
       ·exact .inl (List.mem_of_mem_drop h)
      rcases this with h | h
      ·exact ⟨(hpa p h).1, (hpa p h).2.later Q53⟩
      ·simp at h)
     rw [hcat] at hst
     have HC := hid (copied_any w5 v5 _ hst (by have := hH.out; omega) (fun z hz => by
      rcases mem_putA hz with h | rfl
      ·exact HSL.out z h
      ·exact HXL.out))
     clear hst hcat hsum hone r1 r2 r3 NB qn QY QY3 hrin hpa hrow5 q5 Q53 hNps hps
     go_wp2_with fail
     refine HC.out.mono ?_
     rintro _ w6 ⟨v6, qs, rfl, hqs, hrow6, hall, q6⟩
     have QW6 := QW5.out.trans (q6.mono QW5.out.size)
     have hfin := HP3.out w6 v6 (by first | rfl | trivial) hH.out ⟨_, qs, hqs, hrow6, hall⟩ QW6
     clear hqs hrow6 hall q6 HC
     go_wp2
     rw [calmPost_normal]
     go_wp2
     exact hfin
    ·have hckI : ¬ (cap : Int) = (k : Int) := by omega
     refine wp_region_mix (C := Grows w3) [some true, some true, some true, some true, some true, some true, some true, none, none, none, none, none] hmx (by kernel_rfl) (by kernel_rfl) (grows_refl w3) ?_
     simp only [headOf, tailOf]
     repeat (go_big_quiet_step (fail))
     refine wpQuiet_nil ?_
     rintro _ ⟨y, rfl⟩
     go_wp2_with fail
     obtain ⟨ps, hps, hrin, hpa⟩ := HPS.out
     have QY := QW3.out.trans (y.below.mono QW3.out.size)
     have QY3 : Below w3.heap.size w3 y.w := y.below
     have hNps : ps.length = n := by rw [← HN.out, ← hps, List.length_map]
     have NB := Has.new y.w 22 #[.slice a k cap, (.slice none 0 0), (.slice (Option.map (fun x => x.add (k * 27)) a) (n - k) (cap - k))]
     have qn := newA y.w (.cells #[.slice a k cap, (.slice none 0 0), (.slice (Option.map (fun x => x.add (k * 27)) a) (n - k) (cap - k))] 22)
     have r1 := (((hrin.takeN k (by have := HSK.out.1; have := HN.out; omega)).later QY3).later qn)
     have r2 := (((RowA.nil w3 0).in).later y.below).later qn
     have r3 : RowIn _ (.slice (Option.map (fun x => x.add (k * 27)) a) (n - k) (cap - k)) (ps.drop k) := (((hrin.dropN k (by omega)).later QY3).later qn)
     have hone : ∀ p ∈ ps, p.2.oneCell' = true := fun p hp => by
      obtain ⟨_, _, e, _, _⟩ := (hpa p hp).2.shape
      rw [e]
      rfl
     have hsum : sumL [(Value.slice a k cap, ps.take k), ((.slice none 0 0), ([] : List Pa)), ((.slice (Option.map (fun x => x.add (k * 27)) a) (n - k) (cap - k)), ps.drop k)] ≤ 100000 := by
      simp [sumL, hNps]
      have := HL.out
      omega
     have hcat : (catL [(Value.slice a k cap, ps.take k), ((.slice none 0 0), ([] : List Pa)), ((.slice (Option.map (fun x => x.add (k * 27)) a) (n - k) (cap - k)), ps.drop k)]).map (·.1) = putA l x := by
      rw [HPA.out, ← hps]
      simp [catL]
     refine (concat_any _ y.w.heap.size [(.slice a k cap, ps.take k), ((.slice none 0 0), ([] : List Pa)), ((.slice (Option.map (fun x => x.add (k * 27)) a) (n - k) (cap - k)), ps.drop k)] (fun i q hq => by
      obtain rfl | rfl | rfl : i = 0 ∨ i = 1 ∨ i = 2 := by
       have := (List.getElem?_eq_some_iff.1 hq).1
       simp at this
       omega
      ·injection hq with hq
       subst hq
       exact ⟨NB.cell 0 _ rfl, r1, fun p hp => hone p (List.mem_of_mem_take hp)⟩
      ·injection hq with hq
       subst hq
       exact ⟨NB.cell 1 _ rfl, r2, fun p hp => by simp at hp⟩
      ·injection hq with hq
       subst hq
       exact ⟨NB.cell 2 _ rfl, r3, fun p hp => hone p (List.mem_of_mem_drop hp)⟩) (by simp) hsum).mono ?_
     rintro _ w5 ⟨v5, rfl, hrow5, q5⟩
     have Q53 := (QY3.trans (qn.mono QY3.size)).trans (q5.mono (QY3.trans (qn.mono QY3.size)).size)
     have QW5 := hid ((QY.trans (qn.mono QY.size)).trans (q5.mono (QY.trans (qn.mono QY.size)).size))
     have hst := hrow5.in.st (fun p hp => by
      have : p ∈ ps ∨ p ∈ ([] : List Pa) := by
       simp only [catL, List.flatMap_cons, List.flatMap_nil, List.append_nil, List.mem_append] at hp
       rcases hp with h | h | h
       ·exact .inl (List.mem_of_mem_take h)
       ·exact .inr h
       ·exact .inl (List.mem_of_mem_drop h)
      rcases this with h | h
      ·exact ⟨(hpa p h).1, (hpa p h).2.later Q53⟩
      ·simp at h)
     rw [hcat] at hst
     have HC := hid (copied_any w5 v5 _ hst (by have := hH.out; omega) (fun z hz => by
      rcases mem_putA hz with h | rfl
      ·exact HSL.out z h
      ·exact HXL.out))
     clear hst hcat hsum hone r1 r2 r3 NB qn QY QY3 hrin hpa hrow5 q5 Q53 hNps hps
     go_wp2_with fail
     refine HC.out.mono ?_
     rintro _ w6 ⟨v6, qs, rfl, hqs, hrow6, hall, q6⟩
     have QW6 := QW5.out.trans (q6.mono QW5.out.size)
     have hfin := HP3.out w6 v6 (by first | rfl | trivial) hH.out ⟨_, qs, hqs, hrow6, hall⟩ QW6
     clear hqs hrow6 hall q6 HC
     go_wp2
     rw [calmPost_normal]
     go_wp2
     exact hfin
   ·have h2I : ¬ (n : Int) - 0 + 0 ≤ 200 := by omega
    have hH := hid (show ¬ (putA l x).length ≤ 200 by rw [HLEN.out]; exact h200)
    clear h200
    go_wp2_with fail
    exact HP2.out _ (by first | rfl | trivial) hH.out QW3.out
  ·-- is = True, empty = False
   obtain rfl : d = 1 := by simpa using hdi
   clear hdi
   have HLEN := hid (show (putA l x).length = n - 1 + 1 by
    rw [HPA.out]
    simp only [List.length_append, List.length_take, List.length_drop]
    have := HN.out
    simp
    omega)
   go_wp2_with (refine wpList_load_known rfl _ (.tmp 3) rfl _ rfl _ hl2 ?_)
   refine HE.out.mono ?_
   rintro _ w3 ⟨rfl, q3⟩
   have Q3 := hid (Q2.out.trans (q3.mono Q2.out.size))
   have QW3 := hid (QW2.out.trans (q3.mono QW2.out.size))
   clear q3 hl2 HE
   have hl3 := (HBX.out w3 Q3.out).accLoad
   rw [HCX.out] at hl3
   obtain ⟨v4, w4, happ, hrow4, _, q4⟩ := push_ac w3 w3.heap.size (.slice none 0 0) [] (RowA.nil _ _) (Nat.le_refl _) (by simp) x (.slice sa x.slots.length sc) rfl
   rw [HCX.out] at happ
   obtain ⟨a4, c4, rfl⟩ := hrow4.shape
   have QW4 := hid (QW3.out.trans (q4.mono QW3.out.size))
   have R4 := hid hrow4.in
   simp only [List.nil_append, List.length_cons, List.length_nil, Nat.zero_add] at R4 happ
   have q4h := hid q4
   clear hrow4 q4
   by_cases h200 : n - 1 + 1 ≤ 200
   ·have h2I : (n : Int) - 1 + 1 ≤ 200 := by omega
    go_wp2_with (first | (refine wpList_load_known rfl _ (.tmp 3) rfl _ rfl _ hl3 ?_) | (refine wpList_build_ac rfl (.tmp 28) rfl x (.slice sa x.slots.length sc) (by rw [HCX.out]; rfl) ?_; rw [HCX.out]) | (at_builtin; refine wpList_append_run rfl (.tmp 27) (.tmp 29) 22 rfl _ _ _ rfl rfl happ ?_))
    have hncI : (n : Int) ≤ (cap : Int) := by have := HCAP.out.1; omega
    have hcmI : (cap : Int) ≤ 9223372036854775807 := by have := HCAP.out.2; omega
    have hkc : (k : Int) ≤ (cap : Int) := by omega
    have hkc1 : (k : Int) + 1 ≤ (n : Int) := by omega
    clear hkc1
    have HPS := hid (HS.out.later QW3.out).pairs
    have hkdI : (k : Int) + 1 ≤ (n : Int) := by omega
    have hH := hid (show (putA l x).length ≤ 200 by rw [HLEN.out]; exact h200)
    clear h200 h2I hkd
    replace happ := hid happ
    by_cases hck : cap = k + 1
    ·replace hck := hck.symm; subst hck
     refine wp_region_mix (C := Grows w4) [some true, some true, some true, some true, some true, some true, some true, none, none, none, none, none] hmx (by kernel_rfl) (by kernel_rfl) (grows_refl w4) ?_
     simp only [headOf, tailOf]
     repeat (go_big_quiet_step (fail))
     refine wpQuiet_nil ?_
     rintro _ ⟨y, rfl⟩
     go_wp2_with fail
     obtain ⟨ps, hps, hrin, hpa⟩ := HPS.out
     have QY := QW4.out.trans (y.below.mono QW4.out.size)
     have QY3 : Below w3.heap.size w3 y.w := q4h.out.trans (y.below.mono q4h.out.size)
     have hNps : ps.length = n := by rw [← HN.out, ← hps, List.length_map]
     have NB := Has.new y.w 22 #[.slice a k (k + 1), (.slice a4 1 c4), (.slice a (n - (k + 1)) 0)]
     have qn := newA y.w (.cells #[.slice a k (k + 1), (.slice a4 1 c4), (.slice a (n - (k + 1)) 0)] 22)
     have r1 := (((hrin.takeN k (by have := HSK.out.1; have := HN.out; omega)).later QY3).later qn)
     have r2 := ((R4.out).later y.below).later qn
     have r3 : RowIn _ (.slice a (n - (k + 1)) 0) (ps.drop (k + 1)) := (((hrin.dropNE (k + 1) (by omega)).later QY3).later qn)
     have hone : ∀ p ∈ ps, p.2.oneCell' = true := fun p hp => by
      obtain ⟨_, _, e, _, _⟩ := (hpa p hp).2.shape
      rw [e]
      rfl
     have hsum : sumL [(Value.slice a k (k + 1), ps.take k), ((.slice a4 1 c4), [(x, .slice sa x.slots.length sc)]), ((.slice a (n - (k + 1)) 0), ps.drop (k + 1))] ≤ 100000 := by
      simp [sumL, hNps]
      have := HL.out
      omega
     have hcat : (catL [(Value.slice a k (k + 1), ps.take k), ((.slice a4 1 c4), [(x, .slice sa x.slots.length sc)]), ((.slice a (n - (k + 1)) 0), ps.drop (k + 1))]).map (·.1) = putA l x := by
      rw [HPA.out, ← hps]
      simp [catL]
     refine (concat_any _ y.w.heap.size [(.slice a k (k + 1), ps.take k), ((.slice a4 1 c4), [(x, .slice sa x.slots.length sc)]), ((.slice a (n - (k + 1)) 0), ps.drop (k + 1))] (fun i q hq => by
      obtain rfl | rfl | rfl : i = 0 ∨ i = 1 ∨ i = 2 := by
       have := (List.getElem?_eq_some_iff.1 hq).1
       simp at this
       omega
      ·injection hq with hq
       subst hq
       exact ⟨NB.cell 0 _ rfl, r1, fun p hp => hone p (List.mem_of_mem_take hp)⟩
      ·injection hq with hq
       subst hq
       exact ⟨NB.cell 1 _ rfl, r2, fun p hp => by simp at hp; subst hp; rfl⟩
      ·injection hq with hq
       subst hq
       exact ⟨NB.cell 2 _ rfl, r3, fun p hp => hone p (List.mem_of_mem_drop hp)⟩) (by simp) hsum).mono ?_
     rintro _ w5 ⟨v5, rfl, hrow5, q5⟩
     have Q53 := (QY3.trans (qn.mono QY3.size)).trans (q5.mono (QY3.trans (qn.mono QY3.size)).size)
     have QW5 := hid ((QY.trans (qn.mono QY.size)).trans (q5.mono (QY.trans (qn.mono QY.size)).size))
     have hst := hrow5.in.st (fun p hp => by
      have : p ∈ ps ∨ p ∈ [(x, .slice sa x.slots.length sc)] := by
       simp only [catL, List.flatMap_cons, List.flatMap_nil, List.append_nil, List.mem_append] at hp
       rcases hp with h | h | h
       ·exact .inl (List.mem_of_mem_take h)
       ·exact .inr h
       ·exact .inl (List.mem_of_mem_drop h)
      rcases this with h | h
      ·exact ⟨(hpa p h).1, (hpa p h).2.later Q53⟩
      ·simp at h
       subst h
       exact ⟨HOK.out, HSX.out.later QW5.out⟩)
     rw [hcat] at hst
     have HC := hid (copied_any w5 v5 _ hst (by have := hH.out; omega) (fun z hz => by
      rcases mem_putA hz with h | rfl
      ·exact HSL.out z h
      ·exact HXL.out))
     clear hst hcat hsum hone r1 r2 r3 NB qn QY QY3 hrin hpa hrow5 q5 Q53 hNps hps
     go_wp2_with fail
     refine HC.out.mono ?_
     rintro _ w6 ⟨v6, qs, rfl, hqs, hrow6, hall, q6⟩
     have QW6 := QW5.out.trans (q6.mono QW5.out.size)
     have hfin := HP3.out w6 v6 (by first | rfl | trivial) hH.out ⟨_, qs, hqs, hrow6, hall⟩ QW6
     clear hqs hrow6 hall q6 HC
     go_wp2
     rw [calmPost_normal]
     go_wp2
     exact hfin
    ·have hckI : ¬ (cap : Int) = (k : Int) + 1 := by omega
     refine wp_region_mix (C := Grows w4) [some true, some true, some true, some true, some true, some true, some true, none, none, none, none, none] hmx (by kernel_rfl) (by kernel_rfl) (grows_refl w4) ?_
     simp only [headOf, tailOf]
     repeat (go_big_quiet_step (fail))
     refine wpQuiet_nil ?_
     rintro _ ⟨y, rfl⟩
     go_wp2_with fail
     obtain ⟨ps, hps, hrin, hpa⟩ := HPS.out
     have QY := QW4.out.trans (y.below.mono QW4.out.size)
     have QY3 : Below w3.heap.size w3 y.w := q4h.out.trans (y.below.mono q4h.out.size)
     have hNps : ps.length = n := by rw [← HN.out, ← hps, List.length_map]
     have NB := Has.new y.w 22 #[.slice a k cap, (.slice a4 1 c4), (.slice (Option.map (fun x => x.add ((k + 1) * 27)) a) (n - (k + 1)) (cap - (k + 1)))]
     have qn := newA y.w (.cells #[.slice a k cap, (.slice a4 1 c4), (.slice (Option.map (fun x => x.add ((k + 1) * 27)) a) (n - (k + 1)) (cap - (k + 1)))] 22)
     have r1 := (((hrin.takeN k (by have := HSK.out.1; have := HN.out; omega)).later QY3).later qn)
     have r2 := ((R4.out).later y.below).later qn
     have r3 : RowIn _ (.slice (Option.map (fun x => x.add ((k + 1) * 27)) a) (n - (k + 1)) (cap - (k + 1))) (ps.drop (k + 1)) := (((hrin.dropN (k + 1) (by omega)).later QY3).later qn)
     have hone : ∀ p ∈ ps, p.2.oneCell' = true := fun p hp => by
      obtain ⟨_, _, e, _, _⟩ := (hpa p hp).2.shape
      rw [e]
      rfl
     have hsum : sumL [(Value.slice a k cap, ps.take k), ((.slice a4 1 c4), [(x, .slice sa x.slots.length sc)]), ((.slice (Option.map (fun x => x.add ((k + 1) * 27)) a) (n - (k + 1)) (cap - (k + 1))), ps.drop (k + 1))] ≤ 100000 := by
      simp [sumL, hNps]
      have := HL.out
      omega
     have hcat : (catL [(Value.slice a k cap, ps.take k), ((.slice a4 1 c4), [(x, .slice sa x.slots.length sc)]), ((.slice (Option.map (fun x => x.add ((k + 1) * 27)) a) (n - (k + 1)) (cap - (k + 1))), ps.drop (k + 1))]).map (·.1) = putA l x := by
      rw [HPA.out, ← hps]
      simp [catL]
     refine (concat_any _ y.w.heap.size [(.slice a k cap, ps.take k), ((.slice a4 1 c4), [(x, .slice sa x.slots.length sc)]), ((.slice (Option.map (fun x => x.add ((k + 1) * 27)) a) (n - (k + 1)) (cap - (k + 1))), ps.drop (k + 1))] (fun i q hq => by
      obtain rfl | rfl | rfl : i = 0 ∨ i = 1 ∨ i = 2 := by
       have := (List.getElem?_eq_some_iff.1 hq).1
       simp at this
       omega
      ·injection hq with hq
       subst hq
       exact ⟨NB.cell 0 _ rfl, r1, fun p hp => hone p (List.mem_of_mem_take hp)⟩
      ·injection hq with hq
       subst hq
       exact ⟨NB.cell 1 _ rfl, r2, fun p hp => by simp at hp; subst hp; rfl⟩
      ·injection hq with hq
       subst hq
       exact ⟨NB.cell 2 _ rfl, r3, fun p hp => hone p (List.mem_of_mem_drop hp)⟩) (by simp) hsum).mono ?_
     rintro _ w5 ⟨v5, rfl, hrow5, q5⟩
     have Q53 := (QY3.trans (qn.mono QY3.size)).trans (q5.mono (QY3.trans (qn.mono QY3.size)).size)
     have QW5 := hid ((QY.trans (qn.mono QY.size)).trans (q5.mono (QY.trans (qn.mono QY.size)).size))
     have hst := hrow5.in.st (fun p hp => by
      have : p ∈ ps ∨ p ∈ [(x, .slice sa x.slots.length sc)] := by
       simp only [catL, List.flatMap_cons, List.flatMap_nil, List.append_nil, List.mem_append] at hp
       rcases hp with h | h | h
       ·exact .inl (List.mem_of_mem_take h)
       ·exact .inr h
       ·exact .inl (List.mem_of_mem_drop h)
      rcases this with h | h
      ·exact ⟨(hpa p h).1, (hpa p h).2.later Q53⟩
      ·simp at h
       subst h
       exact ⟨HOK.out, HSX.out.later QW5.out⟩)
     rw [hcat] at hst
     have HC := hid (copied_any w5 v5 _ hst (by have := hH.out; omega) (fun z hz => by
      rcases mem_putA hz with h | rfl
      ·exact HSL.out z h
      ·exact HXL.out))
     clear hst hcat hsum hone r1 r2 r3 NB qn QY QY3 hrin hpa hrow5 q5 Q53 hNps hps
     go_wp2_with fail
     refine HC.out.mono ?_
     rintro _ w6 ⟨v6, qs, rfl, hqs, hrow6, hall, q6⟩
     have QW6 := QW5.out.trans (q6.mono QW5.out.size)
     have hfin := HP3.out w6 v6 (by first | rfl | trivial) hH.out ⟨_, qs, hqs, hrow6, hall⟩ QW6
     clear hqs hrow6 hall q6 HC
     go_wp2
     rw [calmPost_normal]
     go_wp2
     exact hfin
   ·have h2I : ¬ (n : Int) - 1 + 1 ≤ 200 := by omega
    have hH := hid (show ¬ (putA l x).length ≤ 200 by rw [HLEN.out]; exact h200)
    clear h200
    go_wp2_with (first | (refine wpList_load_known rfl _ (.tmp 3) rfl _ rfl _ hl3 ?_) | (refine wpList_build_ac rfl (.tmp 28) rfl x (.slice sa x.slots.length sc) (by rw [HCX.out]; rfl) ?_; rw [HCX.out]) | (at_builtin; refine wpList_append_run rfl (.tmp 27) (.tmp 29) 22 rfl _ _ _ rfl rfl happ ?_))
    exact HP2.out _ (by first | rfl | trivial) hH.out QW4.out
  ·-- is = True, empty = True
   obtain rfl : d = 1 := by simpa using hdi
   clear hdi
   have HLEN := hid (show (putA l x).length = n - 1 + 0 by
    rw [HPA.out]
    simp only [List.length_append, List.length_take, List.length_drop]
    have := HN.out
    simp
    omega)
   go_wp2_with (refine wpList_load_known rfl _ (.tmp 3) rfl _ rfl _ hl2 ?_)
   refine HE.out.mono ?_
   rintro _ w3 ⟨rfl, q3⟩
   have Q3 := hid (Q2.out.trans (q3.mono Q2.out.size))
   have QW3 := hid (QW2.out.trans (q3.mono QW2.out.size))
   clear q3 hl2 HE
   by_cases h200 : n - 1 + 0 ≤ 200
   ·have h2I : (n : Int) - 1 + 0 ≤ 200 := by omega
    go_wp2_with fail
    have hncI : (n : Int) ≤ (cap : Int) := by have := HCAP.out.1; omega
    have hcmI : (cap : Int) ≤ 9223372036854775807 := by have := HCAP.out.2; omega
    have hkc : (k : Int) ≤ (cap : Int) := by omega
    have hkc1 : (k : Int) + 1 ≤ (n : Int) := by omega
    clear hkc1
    have HPS := hid (HS.out.later QW3.out).pairs
    have hkdI : (k : Int) + 1 ≤ (n : Int) := by omega
    have hH := hid (show (putA l x).length ≤ 200 by rw [HLEN.out]; exact h200)
    clear h200 h2I hkd
    by_cases hck : cap = k + 1
    ·replace hck := hck.symm; subst hck
     refine wp_region_mix (C := Grows w3) [some true, some true, some true, some true, some true, some true, some true, none, none, none, none, none] hmx (by kernel_rfl) (by kernel_rfl) (grows_refl w3) ?_
     simp only [headOf, tailOf]
     repeat (go_big_quiet_step (fail))
     refine wpQuiet_nil ?_
     rintro _ ⟨y, rfl⟩
     go_wp2_with fail
     obtain ⟨ps, hps, hrin, hpa⟩ := HPS.out
     have QY := QW3.out.trans (y.below.mono QW3.out.size)
     have QY3 : Below w3.heap.size w3 y.w := y.below
     have hNps : ps.length = n := by rw [← HN.out, ← hps, List.length_map]
     have NB := Has.new y.w 22 #[.slice a k (k + 1), (.slice none 0 0), (.slice a (n - (k + 1)) 0)]
     have qn := newA y.w (.cells #[.slice a k (k + 1), (.slice none 0 0), (.slice a (n - (k + 1)) 0)] 22)
     have r1 := (((hrin.takeN k (by have := HSK.out.1; have := HN.out; omega)).later QY3).later qn)
     have r2 := (((RowA.nil w3 0).in).later y.below).later qn
     have r3 : RowIn _ (.slice a (n - (k + 1)) 0) (ps.drop (k + 1)) := (((hrin.dropNE (k + 1) (by omega)).later QY3).later qn)
     have hone : ∀ p ∈ ps, p.2.oneCell' = true := fun p hp => by
      obtain ⟨_, _, e, _, _⟩ := (hpa p hp).2.shape
      rw [e]
      rfl
     have hsum : sumL [(Value.slice a k (k + 1), ps.take k), ((.slice none 0 0), ([] : List Pa)), ((.slice a (n - (k + 1)) 0), ps.drop (k + 1))] ≤ 100000 := by
      simp [sumL, hNps]
      have := HL.out
      omega
     have hcat : (catL [(Value.slice a k (k + 1), ps.take k), ((.slice none 0 0), ([] : List Pa)), ((.slice a (n - (k + 1)) 0), ps.drop (k + 1))]).map (·.1) = putA l x := by
      rw [HPA.out, ← hps]
      simp [catL]
     refine (concat_any _ y.w.heap.size [(.slice a k (k + 1), ps.take k), ((.slice none 0 0), ([] : List Pa)), ((.slice a (n - (k + 1)) 0), ps.drop (k + 1))] (fun i q hq => by
      obtain rfl | rfl | rfl : i = 0 ∨ i = 1 ∨ i = 2 := by
       have := (List.getElem?_eq_some_iff.1 hq).1
       simp at this
       omega
      ·injection hq with hq
       subst hq
       exact ⟨NB.cell 0 _ rfl, r1, fun p hp => hone p (List.mem_of_mem_take hp)⟩
      ·injection hq with hq
       subst hq
       exact ⟨NB.cell 1 _ rfl, r2, fun p hp => by simp at hp⟩
      ·injection hq with hq
       subst hq
       exact ⟨NB.cell 2 _ rfl, r3, fun p hp => hone p (List.mem_of_mem_drop hp)⟩) (by simp) hsum).mono ?_
     rintro _ w5 ⟨v5, rfl, hrow5, q5⟩
     have Q53 := (QY3.trans (qn.mono QY3.size)).trans (q5.mono (QY3.trans (qn.mono QY3.size)).size)
     have QW5 := hid ((QY.trans (qn.mono QY.size)).trans (q5.mono (QY.trans (qn.mono QY.size)).size))
     have hst := hrow5.in.st (fun p hp => by
      have : p ∈ ps ∨ p ∈ ([] : List Pa) := by
       simp only [catL, List.flatMap_cons, List.flatMap_nil, List.append_nil, List.mem_append] at hp
       rcases hp with h | h | h
       ·exact .inl (List.mem_of_mem_take h)
       ·exact .inr h
       ·exact .inl (List.mem_of_mem_drop h)
      rcases this with h | h
      ·exact ⟨(hpa p h).1, (hpa p h).2.later Q53⟩
      ·simp at h)
     rw [hcat] at hst
     have HC := hid (copied_any w5 v5 _ hst (by have := hH.out; omega) (fun z hz => by
      rcases mem_putA hz with h | rfl
      ·exact HSL.out z h
      ·exact HXL.out))
     clear hst hcat hsum hone r1 r2 r3 NB qn QY QY3 hrin hpa hrow5 q5 Q53 hNps hps
     go_wp2_with fail
     refine HC.out.mono ?_
     rintro _ w6 ⟨v6, qs, rfl, hqs, hrow6, hall, q6⟩
     have QW6 := QW5.out.trans (q6.mono QW5.out.size)
     have hfin := HP3.out w6 v6 (by first | rfl | trivial) hH.out ⟨_, qs, hqs, hrow6, hall⟩ QW6
     clear hqs hrow6 hall q6 HC
     go_wp2
     rw [calmPost_normal]
     go_wp2
     exact hfin
    ·have hckI : ¬ (cap : Int) = (k : Int) + 1 := by omega
     refine wp_region_mix (C := Grows w3) [some true, some true, some true, some true, some true, some true, some true, none, none, none, none, none] hmx (by kernel_rfl) (by kernel_rfl) (grows_refl w3) ?_
     simp only [headOf, tailOf]
     repeat (go_big_quiet_step (fail))
     refine wpQuiet_nil ?_
     rintro _ ⟨y, rfl⟩
     go_wp2_with fail
     obtain ⟨ps, hps, hrin, hpa⟩ := HPS.out
     have QY := QW3.out.trans (y.below.mono QW3.out.size)
     have QY3 : Below w3.heap.size w3 y.w := y.below
     have hNps : ps.length = n := by rw [← HN.out, ← hps, List.length_map]
     have NB := Has.new y.w 22 #[.slice a k cap, (.slice none 0 0), (.slice (Option.map (fun x => x.add ((k + 1) * 27)) a) (n - (k + 1)) (cap - (k + 1)))]
     have qn := newA y.w (.cells #[.slice a k cap, (.slice none 0 0), (.slice (Option.map (fun x => x.add ((k + 1) * 27)) a) (n - (k + 1)) (cap - (k + 1)))] 22)
     have r1 := (((hrin.takeN k (by have := HSK.out.1; have := HN.out; omega)).later QY3).later qn)
     have r2 := (((RowA.nil w3 0).in).later y.below).later qn
     have r3 : RowIn _ (.slice (Option.map (fun x => x.add ((k + 1) * 27)) a) (n - (k + 1)) (cap - (k + 1))) (ps.drop (k + 1)) := (((hrin.dropN (k + 1) (by omega)).later QY3).later qn)
     have hone : ∀ p ∈ ps, p.2.oneCell' = true := fun p hp => by
      obtain ⟨_, _, e, _, _⟩ := (hpa p hp).2.shape
      rw [e]
      rfl
     have hsum : sumL [(Value.slice a k cap, ps.take k), ((.slice none 0 0), ([] : List Pa)), ((.slice (Option.map (fun x => x.add ((k + 1) * 27)) a) (n - (k + 1)) (cap - (k + 1))), ps.drop (k + 1))] ≤ 100000 := by
      simp [sumL, hNps]
      have := HL.out
      omega
     have hcat : (catL [(Value.slice a k cap, ps.take k), ((.slice none 0 0), ([] : List Pa)), ((.slice (Option.map (fun x => x.add ((k + 1) * 27)) a) (n - (k + 1)) (cap - (k + 1))), ps.drop (k + 1))]).map (·.1) = putA l x := by
      rw [HPA.out, ← hps]
      simp [catL]
     refine (concat_any _ y.w.heap.size [(.slice a k cap, ps.take k), ((.slice none 0 0), ([] : List Pa)), ((.slice (Option.map (fun x => x.add ((k + 1) * 27)) a) (n - (k + 1)) (cap - (k + 1))), ps.drop (k + 1))] (fun i q hq => by
      obtain rfl | rfl | rfl : i = 0 ∨ i = 1 ∨ i = 2 := by
       have := (List.getElem?_eq_some_iff.1 hq).1
       simp at this
       omega
      ·injection hq with hq
       subst hq
       exact ⟨NB.cell 0 _ rfl, r1, fun p hp => hone p (List.mem_of_mem_take hp)⟩
      ·injection hq with hq
       subst hq
       exact ⟨NB.cell 1 _ rfl, r2, fun p hp => by simp at hp⟩
      ·injection hq with hq
       subst hq
       exact ⟨NB.cell 2 _ rfl, r3, fun p hp => hone p (List.mem_of_mem_drop hp)⟩) (by simp) hsum).mono ?_
     rintro _ w5 ⟨v5, rfl, hrow5, q5⟩
     have Q53 := (QY3.trans (qn.mono QY3.size)).trans (q5.mono (QY3.trans (qn.mono QY3.size)).size)
     have QW5 := hid ((QY.trans (qn.mono QY.size)).trans (q5.mono (QY.trans (qn.mono QY.size)).size))
     have hst := hrow5.in.st (fun p hp => by
      have : p ∈ ps ∨ p ∈ ([] : List Pa) := by
       simp only [catL, List.flatMap_cons, List.flatMap_nil, List.append_nil, List.mem_append] at hp
       rcases hp with h | h | h
       ·exact .inl (List.mem_of_mem_take h)
       ·exact .inr h
       ·exact .inl (List.mem_of_mem_drop h)
      rcases this with h | h
      ·exact ⟨(hpa p h).1, (hpa p h).2.later Q53⟩
      ·simp at h)
     rw [hcat] at hst
     have HC := hid (copied_any w5 v5 _ hst (by have := hH.out; omega) (fun z hz => by
      rcases mem_putA hz with h | rfl
      ·exact HSL.out z h
      ·exact HXL.out))
     clear hst hcat hsum hone r1 r2 r3 NB qn QY QY3 hrin hpa hrow5 q5 Q53 hNps hps
     go_wp2_with fail
     refine HC.out.mono ?_
     rintro _ w6 ⟨v6, qs, rfl, hqs, hrow6, hall, q6⟩
     have QW6 := QW5.out.trans (q6.mono QW5.out.size)
     have hfin := HP3.out w6 v6 (by first | rfl | trivial) hH.out ⟨_, qs, hqs, hrow6, hall⟩ QW6
     clear hqs hrow6 hall q6 HC
     go_wp2
     rw [calmPost_normal]
     go_wp2
     exact hfin
   ·have h2I : ¬ (n : Int) - 1 + 0 ≤ 200 := by omega
    have hH := hid (show ¬ (putA l x).length ≤ 200 by rw [HLEN.out]; exact h200)
    clear h200
    go_wp2_with fail
    exact HP2.out _ (by first | rfl | trivial) hH.out QW3.out
end Go.Proofs.YtkicmbdjihjgfaaGreatDoor
