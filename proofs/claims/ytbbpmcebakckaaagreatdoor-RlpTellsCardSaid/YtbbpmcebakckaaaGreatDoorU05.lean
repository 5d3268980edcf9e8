import Derived.Test.YtbbpmcebakckaaaGreatDoorU04
/- The program's Same, by slices.EqualFunc. Conditions: the items lie in memory. -/
namespace Go.Proofs.YtbbpmcebakckaaaGreatDoor
open Go Go.RowKit
attribute [local go_sem] Oper.semAt_some Grows wide_fn

/-- How the kids lie. -/
def KidsIn (W : World) (ks : List It) (a : Option Addr) : Prop := ks = [] ∨ ∃ g o, a = some ⟨g, o, none⟩ ∧ KidsAt W ks g o
theorem KidsIn.later {W X : World} (hb : Below W.heap.size W X) {ks : List It} {a : Option Addr} (h : KidsIn W ks a) : KidsIn X ks a := by
  rcases h with h | ⟨g, o, e, h⟩
  · exact .inl h
  · exact .inr ⟨g, o, e, h.later hb⟩
noncomputable def sameL (t u : List It) : Bool := @decide (t = u) (Classical.propDecidable _)
theorem sameL_iff (t u : List It) : sameL t u = true ↔ t = u := by unfold sameL; exact @decide_eq_true_iff _ (Classical.propDecidable _)
theorem sameL_false {t u : List It} (h : t ≠ u) : sameL t u = false := by
  rcases hb : sameL t u with _ | _
  · rfl
  · exact absurd ((sameL_iff t u).1 hb) h

def PSameAt (t u : It) : Prop := ∀ (v w : Value) (W : World), ItemAt W t v → ItemAt W u w →
  Calls Tryz.prog 16 #[v, w] W fun e W' => e = .returned (.bool (sameI t u)) ∧ Below W.heap.size W W'

set_option maxRecDepth 100000 in
set_option maxHeartbeats 4000000 in
theorem eqf_any (ks ks' : List It) (IH : ∀ k ∈ ks, ∀ k', PSameAt k k') (a a' : Option Addr) (cap cap' : Nat) (w : World) (hk : KidsIn w ks a) (hk' : KidsIn w ks' a') (hn : ks.length ≤ 1099511627776) (hn' : ks'.length ≤ 1099511627776) :
    Calls Tryz.prog 37 #[.slice a ks.length cap, .slice a' ks'.length cap', .func (.func 16) #[] #[]] w fun e W' => e = .returned (.bool (sameL ks ks')) ∧ Below w.heap.size w W' := by
  have HI := Lib.hid IH
  have HK := Lib.hid hk
  have HK' := Lib.hid hk'
  clear IH hk hk'
  obtain ⟨n, en⟩ : ∃ n, ks.length = n := ⟨_, rfl⟩
  obtain ⟨n', en'⟩ : ∃ n', ks'.length = n' := ⟨_, rfl⟩
  rw [en] at hn ⊢
  rw [en'] at hn' ⊢
  have hne := Lib.hid (show n ≠ n' → sameL ks ks' = false from fun h => sameL_false (fun e => h (by rw [← en, ← en', e])))
  replace en := Lib.hid en
  replace en' := Lib.hid en'
  have hmx : Tryz.prog.follows .mixedOrders = true := by kernel_rfl
  have Q := Below.refl w.heap.size w
  by_cases hlen : n = n'
  · subst hlen
    go_enter Tryz.func37, Tryz.ntmps37
    go_wp2_with fail
    go_loopw [17] (fun i wr => ∃ k : Nat, k ≤ n ∧ i = .int .i64 (k : Int) ∧ (∀ j, j < k → ks[j]? = ks'[j]?) ∧ Below w.heap.size w wr) (fun i _ => n - (intOf i).toNat)
    case atStart => exact ⟨0, by omega, rfl, (fun j hj => absurd hj (by omega)), Q⟩
    case round =>
      clear Q
      obtain ⟨k, hkn, rfl, hE, Q⟩ := hrel
      replace hE := Lib.hid hE
      by_cases hk5 : k < n
      · have hkI : (k : Int) < (n : Int) := by omega
        have hk0 : (0 : Int) ≤ (k : Int) := by omega
        obtain ⟨g, o, rfl, hK⟩ := HK.out.resolve_left (fun h => by have h2 := en.out; rw [h] at h2; simp at h2; omega)
        obtain ⟨g', o', rfl, hK'⟩ := HK'.out.resolve_left (fun h => by have h2 := en'.out; rw [h] at h2; simp at h2; omega)
        have hk6 : k < ks'.length := by have := en'.out; omega
        obtain ⟨kx, hkx⟩ : ∃ kx, ks[k]? = some kx := ⟨_, List.getElem?_eq_getElem (by have := en.out; omega)⟩
        obtain ⟨ky, hky⟩ : ∃ ky, ks'[k]? = some ky := ⟨_, List.getElem?_eq_getElem hk6⟩
        have hm : kx ∈ ks := List.mem_of_getElem? hkx
        obtain ⟨l1, b1, a1, n1, cap1, c0, c1, c2, hi⟩ := hK.get3 k _ hkx
        obtain ⟨l2, b2, a2, n2, cap2, d0, d1, d2, hi'⟩ := hK'.get3 k _ hky
        have e1 := Lib.hid hkx
        have e2 := Lib.hid hky
        clear hkx hky hk6
        replace c0 : wr.cell? ⟨g, o + k * 3, none⟩ = some (.bool l1) := (Q.cell (p := ⟨g, _, none⟩) (ltCell c0)).trans c0
        replace c1 : wr.cell? ⟨g, o + k * 3 + 1, none⟩ = some (.string b1) := (Q.cell (p := ⟨g, _, none⟩) (ltCell c1)).trans c1
        replace c2 : wr.cell? ⟨g, o + k * 3 + 2, none⟩ = some (.slice a1 n1 cap1) := (Q.cell (p := ⟨g, _, none⟩) (ltCell c2)).trans c2
        replace d0 : wr.cell? ⟨g', o' + k * 3, none⟩ = some (.bool l2) := (Q.cell (p := ⟨g', _, none⟩) (ltCell d0)).trans d0
        replace d1 : wr.cell? ⟨g', o' + k * 3 + 1, none⟩ = some (.string b2) := (Q.cell (p := ⟨g', _, none⟩) (ltCell d1)).trans d1
        replace d2 : wr.cell? ⟨g', o' + k * 3 + 2, none⟩ = some (.slice a2 n2 cap2) := (Q.cell (p := ⟨g', _, none⟩) (ltCell d2)).trans d2
        have HC := Lib.hid (fun X (hX : Below wr.heap.size wr X) => HI.out kx hm ky _ _ X (hi.later (Q.trans (hX.mono Q.size))) (hi'.later (Q.trans (hX.mono Q.size))))
        replace Q := Lib.hid Q
        clear hi hi' hK hK' HK HK'
        have lg := ltCell c0
        have lg' := ltCell d0
        have NX := Has.new wr 29 #[.bool false, .string ⟨#[]⟩, .slice none 0 0]
        have x0 := NX.cell 0 _ rfl
        have x1 := NX.cell 1 _ rfl
        have x2 := NX.cell 2 _ rfl
        have f0 := NX.frozen 0
        have f1 := NX.frozen 1
        have f2 := NX.frozen 2
        replace NX := Lib.hid NX
        have B2 := Lib.hid (((Below.refl wr.heap.size wr).alloc (Nat.le_refl _) (.cells #[.bool l1, .string b1, .slice a1 n1 cap1] 29)).alloc (by simp) (.cells #[.bool l2, .string b2, .slice a2 n2 cap2] 29))
        go_wp2_with fail
        refine (HC.out _ B2.out).mono ?_
        rintro _ W2 ⟨rfl, q⟩
        replace Q := Lib.hid (Q.out.trans ((B2.out.trans (q.mono B2.out.size)).mono Q.out.size))
        clear c0 c1 c2 d0 d1 d2 x0 x1 x2 f0 f1 f2 NX HC B2 q lg lg'
        by_cases hs : sameI kx ky = true
        · have hxy := Lib.hid ((sameI_iff kx ky).1 hs)
          rw [hs]
          clear hs
          go_wp2_with fail
          go_roundw
          case rel =>
            refine ⟨k + 1, by omega, by simp, fun j hj => ?_, Q.out⟩
            by_cases hjk : j = k
            · subst hjk
              rw [e1.out, e2.out, hxy.out]
            · exact hE.out j (by omega)
          case measure => simp [intOf]; omega
        · have hS := Lib.hid (sameL_false (t := ks) (u := ks') (by
            intro h
            have e3 := e2.out
            rw [← h, e1.out] at e3
            exact hs ((sameI_iff kx ky).2 (by injection e3))))
          have hs' : sameI kx ky = false := by simpa using hs
          rw [hs']
          clear hs hs'
          go_wp2_with fail
          go_ret
          exact ⟨by rw [hS.out]; rfl, Q.out⟩
      · obtain rfl : k = n := by omega
        have hS : sameL ks ks' = true := (sameL_iff ks ks').2 (List.ext_getElem? (fun j => by
            by_cases hj : j < k
            · exact hE.out j hj
            · have h1 := en.out
              have h2 := en'.out
              rw [List.getElem?_eq_none (by omega), List.getElem?_eq_none (by omega)]))
        replace hS := Lib.hid hS
        replace Q := Lib.hid Q
        go_wp2_with fail
        go_ret
        exact ⟨by rw [hS.out]; rfl, Q.out⟩
  · have hS := Lib.hid (hne.out hlen)
    have hln : ¬ (n : Int) = (n' : Int) := by omega
    replace hlen := Lib.hid hlen
    replace Q := Lib.hid Q
    go_enter Tryz.func37, Tryz.ntmps37
    go_wp2_with fail
    go_ret
    exact ⟨by rw [hS.out]; rfl, Q.out⟩

set_option maxRecDepth 100000 in
set_option maxHeartbeats 4000000 in
theorem psame_step (t u : It) (IH : ∀ k ∈ t.kids, ∀ k', PSameAt k k') : PSameAt t u := by
  intro v v' w ht hu
  obtain ⟨a, cap, rfl, hn, hs, hk⟩ := ht.open
  obtain ⟨a', cap', rfl, hn', hs', hk'⟩ := hu.open
  clear ht hu
  have B2 := ((Below.refl w.heap.size w).alloc (Nat.le_refl _) (.cells #[.bool t.list, .string t.bytes, .slice a t.kids.length cap] 29)).alloc (by simp) (.cells #[.bool u.list, .string u.bytes, .slice a' u.kids.length cap'] 29)
  have HC := Lib.hid (fun X (hX : Below w.heap.size w X) => eqf_any t.kids u.kids IH a a' cap cap' X (KidsIn.later hX hk) (KidsIn.later hX hk') hn hn')
  have HT := Lib.hid (It.eta t)
  have HU := Lib.hid (It.eta u)
  clear IH hk hk' hn hn' hs hs'
  generalize t.list = l at *
  generalize u.list = l' at *
  generalize t.bytes = b at *
  generalize u.bytes = b' at *
  have HL := Lib.hid (show sameL t.kids u.kids = true ↔ t.kids = u.kids from sameL_iff _ _)
  generalize sameL t.kids u.kids = sl at *
  generalize t.kids = ks at *
  generalize u.kids = ks' at *
  generalize ks.length = n at *
  generalize ks'.length = n' at *
  have hmx : Tryz.prog.follows .mixedOrders = true := by kernel_rfl
  go_enter Tryz.func16, Tryz.ntmps16
  have LX := (Has.new w 29 #[.bool l, .string b, .slice a n cap]).alloc (.cells #[.bool l', .string b', .slice a' n' cap'] 29)
  have LY := Has.new (w.alloc (.cells #[.bool l, .string b, .slice a n cap] 29)) 29 #[.bool l', .string b', .slice a' n' cap']
  simp only [World.size_alloc] at LY
  have k1 := LX.cell 0 _ rfl
  have k2 := LX.cell 1 _ rfl
  have k3 := LX.cell 2 _ rfl
  have k4 := LY.cell 0 _ rfl
  have k5 := LY.cell 1 _ rfl
  have k6 := LY.cell 2 _ rfl
  replace LX := Lib.hid LX
  replace LY := Lib.hid LY
  have HF : ∀ X : World, Below w.heap.size w X → sameI t u = false → (Ending.returned (.bool false) = .returned (.bool (sameI t u)) ∧ Below w.heap.size w X) := fun X hX e => ⟨by rw [e], hX⟩
  by_cases hl : l = l'
  · subst hl
    by_cases hb : b = b'
    · subst hb
      have hS := Lib.hid (show sl = sameI t u by
        rw [HT.out, HU.out, Bool.eq_iff_iff, HL.out, sameI_iff]
        constructor
        · intro h; rw [h]
        · intro h; injection h)
      replace B2 := Lib.hid B2
      clear HL HT HU
      go_wp2_with fail
      refine (HC.out _ B2.out).mono ?_
      rintro _ W2 ⟨rfl, q⟩
      replace B2 := Lib.hid (B2.out.trans (q.mono B2.out.size))
      clear k1 k2 k3 k4 k5 k6 HC q LX LY
      go_wp2_with fail
      go_ret
      exact ⟨by rw [hS.out]; rfl, B2.out⟩
    · have hS := Lib.hid (sameI_false (t := t) (u := u) (by rw [HT.out, HU.out]; intro h; injection h with h1 h2 h3; exact hb h2))
      have hbl := bytes_ne hb
      have hb := Lib.hid hb
      replace B2 := Lib.hid B2
      go_wp2_with fail
      go_ret
      exact HF _ B2.out hS.out
  · have hS := Lib.hid (sameI_false (t := t) (u := u) (by rw [HT.out, HU.out]; intro h; injection h with h1 h2 h3; exact hl h1))
    have hll : (l == l') = false := by simpa using hl
    have hl := Lib.hid hl
    replace B2 := Lib.hid B2
    go_wp2_with fail
    go_ret
    exact HF _ B2.out hS.out
theorem psame : ∀ (t u : It), PSameAt t u := fun t => It.induct (P := fun t => ∀ u, PSameAt t u) (fun t ih u => psame_step t u ih) t
end Go.Proofs.YtbbpmcebakckaaaGreatDoor

/- Items whose memory lies in blocks of a kind. -/
namespace Go.Proofs.YtbbpmcebakckaaaGreatDoor
open Go Go.RowKit

mutual
def ItemS (W : World) (S : Nat → Prop) : It → Value → Prop
  | .mk l b ks, v => ∃ a cap, v = .agg #[.bool l, .string b, .slice a ks.length cap] ∧ ks.length ≤ 1099511627776 ∧ b.size ≤ 140737488355328 ∧ (ks = [] ∨ ∃ g o, a = some ⟨g, o, none⟩ ∧ S g ∧ KidsS W S ks g o)
def KidsS (W : World) (S : Nat → Prop) : List It → Nat → Nat → Prop
  | [], _, _ => True
  | k :: ks, g, o => (∃ v0 v1 v2, W.cell? ⟨g, o, none⟩ = some v0 ∧ W.cell? ⟨g, o + 1, none⟩ = some v1 ∧ W.cell? ⟨g, o + 2, none⟩ = some v2 ∧ ItemS W S k (.agg #[v0, v1, v2])) ∧ KidsS W S ks g (o + 3)
end
mutual
theorem ItemS.at {W : World} {S : Nat → Prop} : ∀ {t : It} {v : Value}, ItemS W S t v → ItemAt W t v
  | .mk l b ks, v, h => by
    unfold ItemS at h
    unfold ItemAt
    obtain ⟨a, cap, hv, hn, hs, hk⟩ := h
    refine ⟨a, cap, hv, hn, hs, ?_⟩
    rcases hk with h0 | ⟨g, o, ha, _, hk⟩
    · exact .inl h0
    · exact .inr ⟨g, o, ha, KidsS.at hk⟩
theorem KidsS.at {W : World} {S : Nat → Prop} : ∀ {ks : List It} {g o : Nat}, KidsS W S ks g o → KidsAt W ks g o
  | [], _, _, _ => by unfold KidsAt; trivial
  | k :: ks, g, o, h => by
    unfold KidsS at h
    unfold KidsAt
    obtain ⟨⟨v0, v1, v2, h0, h1, h2, hk⟩, hr⟩ := h
    exact ⟨⟨v0, v1, v2, h0, h1, h2, ItemS.at hk⟩, KidsS.at hr⟩
end
mutual
theorem ItemS.keepC {W X : World} {S T : Nat → Prop} (hk : ∀ (b : Nat) (o : Obj), S b → W.heap[b]? = some o → o.isCells = true → X.heap[b]? = some o) (hm : ∀ b, S b → b < W.heap.size → T b) : ∀ {t : It} {v : Value}, ItemS W S t v → ItemS X T t v
  | .mk l b ks, v, h => by
    unfold ItemS at h ⊢
    obtain ⟨a, cap, hv, hn, hs, hq⟩ := h
    refine ⟨a, cap, hv, hn, hs, ?_⟩
    rcases hq with h0 | ⟨g, o, ha, hg, hq⟩
    · exact .inl h0
    · by_cases hks : ks = []
      · exact .inl hks
      · have hlt : g < W.heap.size := by
          cases ks with
          | nil => exact absurd rfl hks
          | cons k ks =>
            unfold KidsS at hq
            obtain ⟨⟨v0, _, _, h0, _⟩, _⟩ := hq
            exact ltCell h0
        exact .inr ⟨g, o, ha, hm g hg hlt, KidsS.keepC hk hm hg hq⟩
theorem KidsS.keepC {W X : World} {S T : Nat → Prop} (hk : ∀ (b : Nat) (o : Obj), S b → W.heap[b]? = some o → o.isCells = true → X.heap[b]? = some o) (hm : ∀ b, S b → b < W.heap.size → T b) : ∀ {ks : List It} {g o : Nat}, S g → KidsS W S ks g o → KidsS X T ks g o
  | [], _, _, _, _ => by unfold KidsS; trivial
  | k :: ks, g, o, hg, h => by
    unfold KidsS at h ⊢
    obtain ⟨⟨v0, v1, v2, h0, h1, h2, hq⟩, hr⟩ := h
    have e : X.heap[g]? = W.heap[g]? := by
      obtain ⟨ob, ho, hc⟩ := cell_block h0
      exact (hk g ob hg ho hc).trans ho.symm
    exact ⟨⟨v0, v1, v2, (World.cell?_of_block (a := ⟨g, o, none⟩) e).trans h0, (World.cell?_of_block (a := ⟨g, o + 1, none⟩) e).trans h1, (World.cell?_of_block (a := ⟨g, o + 2, none⟩) e).trans h2, ItemS.keepC hk hm hq⟩, KidsS.keepC hk hm hg hr⟩
end
theorem ItemS.keep {W X : World} {S T : Nat → Prop} (hk : ∀ b, S b → b < W.heap.size → X.heap[b]? = W.heap[b]?) (hm : ∀ b, S b → b < W.heap.size → T b) {t : It} {v : Value} (h : ItemS W S t v) : ItemS X T t v :=
  h.keepC (fun b o hb ho _ => (hk b hb (Array.getElem?_eq_some_iff.1 ho).1).trans ho) hm
theorem KidsS.keep {W X : World} {S T : Nat → Prop} (hk : ∀ b, S b → b < W.heap.size → X.heap[b]? = W.heap[b]?) (hm : ∀ b, S b → b < W.heap.size → T b) {ks : List It} {g o : Nat} (hg : S g) (h : KidsS W S ks g o) : KidsS X T ks g o :=
  KidsS.keepC (fun b o hb ho _ => (hk b hb (Array.getElem?_eq_some_iff.1 ho).1).trans ho) hm hg h
theorem ItemS.later {W X : World} {S : Nat → Prop} {t : It} {v : Value} (h : ItemS W S t v) (hb : Below W.heap.size W X) : ItemS X S t v := h.keep (fun b _ hl => hb.block b hl) (fun _ h _ => h)
theorem ItemS.mono {W : World} {S T : Nat → Prop} {t : It} {v : Value} (h : ItemS W S t v) (hm : ∀ b, S b → b < W.heap.size → T b) : ItemS W T t v := h.keep (fun _ _ _ => rfl) hm
theorem ItemS.open {W : World} {S : Nat → Prop} {t : It} {v : Value} (h : ItemS W S t v) :
    ∃ a cap, v = .agg #[.bool t.list, .string t.bytes, .slice a t.kids.length cap] ∧ t.kids.length ≤ 1099511627776 ∧ t.bytes.size ≤ 140737488355328 ∧ (t.kids = [] ∨ ∃ g o, a = some ⟨g, o, none⟩ ∧ S g ∧ KidsS W S t.kids g o) := by
  obtain ⟨l, b, ks⟩ := t
  unfold ItemS at h
  exact h
theorem ItemS.mk' {W : World} {S : Nat → Prop} {t : It} {a : Option Addr} {cap : Nat} (hn : t.kids.length ≤ 1099511627776) (hs : t.bytes.size ≤ 140737488355328) (hk : t.kids = [] ∨ ∃ g o, a = some ⟨g, o, none⟩ ∧ S g ∧ KidsS W S t.kids g o) :
    ItemS W S t (.agg #[.bool t.list, .string t.bytes, .slice a t.kids.length cap]) := by
  obtain ⟨l, b, ks⟩ := t
  unfold ItemS
  exact ⟨a, cap, rfl, hn, hs, hk⟩
theorem KidsS.of_get {W : World} {S : Nat → Prop} : ∀ {ks : List It} {g o : Nat}, (∀ j k, ks[j]? = some k → ∃ v0 v1 v2, W.cell? ⟨g, o + j * 3, none⟩ = some v0 ∧ W.cell? ⟨g, o + j * 3 + 1, none⟩ = some v1 ∧ W.cell? ⟨g, o + j * 3 + 2, none⟩ = some v2 ∧ ItemS W S k (.agg #[v0, v1, v2])) → KidsS W S ks g o
  | [], _, _, _ => by unfold KidsS; trivial
  | k :: ks, g, o, h => by
    unfold KidsS
    refine ⟨?_, KidsS.of_get (fun j x hx => ?_)⟩
    · have := h 0 k rfl
      simpa using this
    · have := h (j + 1) x (by simpa using hx)
      rw [show o + (j + 1) * 3 = o + 3 + j * 3 by omega] at this
      exact this
theorem KidsS.get {W : World} {S : Nat → Prop} : ∀ {ks : List It} {g o : Nat} (_ : KidsS W S ks g o) (j : Nat) (k : It), ks[j]? = some k →
    ∃ v0 v1 v2, W.cell? ⟨g, o + j * 3, none⟩ = some v0 ∧ W.cell? ⟨g, o + j * 3 + 1, none⟩ = some v1 ∧ W.cell? ⟨g, o + j * 3 + 2, none⟩ = some v2 ∧ ItemS W S k (.agg #[v0, v1, v2])
  | [], _, _, _, j, k, h => by simp at h
  | k0 :: ks, g, o, hK, 0, k, h => by
    unfold KidsS at hK
    simp at h
    subst h
    simpa using hK.1
  | k0 :: ks, g, o, hK, j + 1, k, h => by
    unfold KidsS at hK
    have h' : ks[j]? = some k := by simpa using h
    obtain ⟨v0, v1, v2, h0, h1, h2, hi⟩ := KidsS.get hK.2 j k h'
    rw [show o + 3 + j * 3 = o + (j + 1) * 3 by omega] at h0 h1 h2
    exact ⟨v0, v1, v2, h0, h1, h2, hi⟩
/-- How kids lie, in blocks of a kind. -/
def KidsInS (W : World) (S : Nat → Prop) (ks : List It) (a : Option Addr) : Prop := ks = [] ∨ ∃ g o, a = some ⟨g, o, none⟩ ∧ S g ∧ KidsS W S ks g o
theorem KidsInS.at {W : World} {S : Nat → Prop} {ks : List It} {a : Option Addr} (h : KidsInS W S ks a) : KidsIn W ks a := by
  rcases h with h | ⟨g, o, e, _, h⟩
  · exact .inl h
  · exact .inr ⟨g, o, e, h.at⟩
theorem KidsInS.keep {W X : World} {S T : Nat → Prop} (hk : ∀ b, S b → b < W.heap.size → X.heap[b]? = W.heap[b]?) (hm : ∀ b, S b → b < W.heap.size → T b) {ks : List It} {a : Option Addr} (h : KidsInS W S ks a) : KidsInS X T ks a := by
  rcases h with h | ⟨g, o, e, hg, h⟩
  · exact .inl h
  · by_cases hks : ks = []
    · exact .inl hks
    · have hlt : g < W.heap.size := by
        cases ks with
        | nil => exact absurd rfl hks
        | cons k ks =>
          unfold KidsS at h
          obtain ⟨⟨v0, _, _, h0, _⟩, _⟩ := h
          exact ltCell h0
      exact .inr ⟨g, o, e, hm g hg hlt, h.keep hk hm hg⟩
end Go.Proofs.YtbbpmcebakckaaaGreatDoor

/- What is read is right, and its bytes are those that were read; and what is right is read. Conditions: none. -/
namespace Go.Proofs.YtbbpmcebakckaaaGreatDoor

/-! ### Digits -/
theorem val256_snoc : ∀ (l : List UInt8) (n : Nat) (c : UInt8), val256 n (l ++ [c]) = val256 n l * 256 + c.toNat
  | [], n, c => rfl
  | x :: r, n, c => val256_snoc r _ c
theorem val256_from : ∀ (l : List UInt8) (n : Nat), val256 n l = n * 256 ^ l.length + val256 0 l
  | [], n => by simp [val256]
  | c :: r, n => by
    rw [val256, val256_from r, val256, val256_from r (0 * 256 + c.toNat), List.length_cons, Nat.pow_succ, Nat.add_mul, Nat.mul_comm (256 ^ r.length) 256, ← Nat.mul_assoc, Nat.zero_mul, Nat.zero_add]
    omega
theorem val256_lt : ∀ (l : List UInt8), val256 0 l < 256 ^ l.length
  | [] => by simp [val256]
  | c :: r => by
    have h := val256_lt r
    rw [val256, val256_from, List.length_cons, Nat.pow_succ]
    have hc := c.toNat_lt
    generalize 256 ^ r.length = p at *
    have : (0 * 256 + c.toNat) * p ≤ 255 * p := Nat.mul_le_mul_right _ (by omega)
    omega
theorem digs_zero : digs 0 = [] := by rw [digs]; simp
theorem digs_pos {n : Nat} (h : n ≠ 0) : digs n = digs (n / 256) ++ [UInt8.ofNat (n % 256)] := by rw [digs]; simp [h]
theorem val256_digs (n : Nat) : val256 0 (digs n) = n := by
  induction n using Nat.strongRecOn with
  | ind n ih =>
    by_cases h : n = 0
    · subst h; rw [digs_zero]; rfl
    · rw [digs_pos h, val256_snoc, ih _ (by omega), UInt8.toNat_ofNat']
      omega
/-- A list of digits without a nought ahead. -/
def Bare (l : List UInt8) : Prop := ∀ c r, l = c :: r → c ≠ 0
theorem digs_bare (n : Nat) : Bare (digs n) := by
  induction n using Nat.strongRecOn with
  | ind n ih =>
    by_cases h : n = 0
    · subst h; rw [digs_zero]; intro c r h; cases h
    · rw [digs_pos h]
      intro c r e
      rcases hd : digs (n / 256) with _ | ⟨x, y⟩
      · rw [hd] at e
        have hn : n / 256 = 0 := by
          have := val256_digs (n / 256)
          rw [hd] at this
          exact this.symm
        injection e with e1 _
        rw [← e1]
        intro h0
        have h1 : (UInt8.ofNat (n % 256)).toNat = (0 : UInt8).toNat := by rw [h0]
        rw [UInt8.toNat_ofNat'] at h1
        have : (0 : UInt8).toNat = 0 := rfl
        omega
      · rw [hd] at e
        injection e with e1 _
        rw [← e1]
        exact ih (n / 256) (by omega) x y hd
theorem snoc_cases {α : Type} (l : List α) : l = [] ∨ ∃ r c, l = r ++ [c] := by
  rcases h : l.reverse with _ | ⟨c, r⟩
  · exact .inl (by simpa using h)
  · exact .inr ⟨r.reverse, c, by have := congrArg List.reverse h; simpa using this⟩
theorem val256_pos {l : List UInt8} (h : Bare l) (hl : l ≠ []) : val256 0 l ≠ 0 := by
  rcases l with _ | ⟨c, r⟩
  · exact absurd rfl hl
  · have hc := h c r rfl
    have hp : 0 < 256 ^ r.length := Nat.pow_pos (by decide)
    rw [val256, val256_from]
    intro h0
    have : (0 * 256 + c.toNat) * 256 ^ r.length = 0 := by omega
    rcases Nat.mul_eq_zero.1 this with h1 | h1
    · exact hc (UInt8.toNat_inj.1 (by show c.toNat = 0; omega))
    · omega
theorem digs_val : ∀ (k : Nat) (l : List UInt8), l.length = k → Bare l → digs (val256 0 l) = l := by
  intro k
  induction k with
  | zero => intro l hl _; rw [List.length_eq_zero_iff.1 hl]; exact digs_zero
  | succ k ih =>
    intro l hl hb
    rcases snoc_cases l with rfl | ⟨r, c, rfl⟩
    · simp at hl
    · have hne := val256_pos hb (by simp)
      rw [digs_pos hne, val256_snoc]
      have hc := c.toNat_lt
      rw [show (val256 0 r * 256 + c.toNat) / 256 = val256 0 r by omega, show (val256 0 r * 256 + c.toNat) % 256 = c.toNat by omega, UInt8.ofNat_toNat]
      rw [ih r (by simpa using hl) (fun x y e => hb x (y ++ [c]) (by rw [e]; rfl))]
theorem digs_length {n k : Nat} (h : n < 256 ^ k) : (digs n).length ≤ k := by
  induction k generalizing n with
  | zero =>
    have : n = 0 := by simpa using h
    subst this
    rw [digs_zero]; simp
  | succ k ih =>
    by_cases h0 : n = 0
    · subst h0; rw [digs_zero]; simp
    · rw [digs_pos h0]
      have := ih (n := n / 256) (by rw [Nat.pow_succ] at h; omega)
      simp
      omega
theorem digs_nil {n : Nat} : digs n = [] ↔ n = 0 := by
  constructor
  · intro h
    have := val256_digs n
    rw [h] at this
    exact this.symm
  · rintro rfl; exact digs_zero
theorem digs_ge {n k : Nat} (h : 256 ^ k ≤ n) : k < (digs n).length := by
  rcases Nat.lt_or_ge k (digs n).length with h' | h'
  · exact h'
  · have h1 := val256_lt (digs n)
    rw [val256_digs] at h1
    have h2 : 256 ^ (digs n).length ≤ 256 ^ k := Nat.pow_le_pow_right (by decide) h'
    omega
theorem digs_mono {a b : Nat} (h : a ≤ b) : (digs a).length ≤ (digs b).length := by
  by_cases h0 : a = 0
  · subst h0; rw [digs_zero]; simp
  · obtain ⟨k, hk⟩ : ∃ k, (digs a).length = k + 1 := by
      rcases hd : (digs a).length with _ | k
      · exact absurd (digs_nil.1 (List.length_eq_zero_iff.1 hd)) h0
      · exact ⟨k, rfl⟩
    rw [hk]
    refine digs_ge (Nat.le_trans ?_ h)
    rcases hl : digs a with _ | ⟨c, r⟩
    · rw [hl] at hk; simp at hk
    · have hc := digs_bare a c r hl
      have hv := val256_digs a
      rw [hl] at hk hv
      have hr : r.length = k := by simpa using hk
      rw [val256, val256_from, hr] at hv
      have : 1 ≤ c.toNat := by
        rcases Nat.eq_zero_or_pos c.toNat with h | h
        · exact absurd (UInt8.toNat_inj.1 (by rw [h]; rfl)) hc
        · exact h
      have : 1 * 256 ^ k ≤ (0 * 256 + c.toNat) * 256 ^ k := Nat.mul_le_mul_right _ (by omega)
      omega

/-! ### Pieces of a text -/
def sl (s : List UInt8) (a b : Nat) : List UInt8 := (s.drop a).take (b - a)
theorem sl_length (s : List UInt8) (a b : Nat) (hb : b ≤ s.length) : (sl s a b).length = b - a := by
  unfold sl; rw [List.length_take, List.length_drop]; omega
theorem sl_append (s : List UInt8) {a b c : Nat} (h1 : a ≤ b) (h2 : b ≤ c) : sl s a b ++ sl s b c = sl s a c := by
  unfold sl
  have e1 : c - a = (b - a) + (c - b) := by omega
  rw [e1, List.take_add, List.drop_drop, show a + (b - a) = b by omega]
theorem sl_one (s : List UInt8) {a : Nat} (h : a < s.length) : sl s a (a + 1) = [s[a]] := by
  unfold sl
  rw [show a + 1 - a = 1 by omega, List.drop_eq_getElem_cons h]
  rfl
theorem sl_nil (s : List UInt8) (a : Nat) : sl s a a = [] := by unfold sl; simp
theorem sl_all (s : List UInt8) : sl s 0 s.length = s := by unfold sl; simp
theorem byteAt_lt (s : List UInt8) (a : Nat) : byteAt s a < 256 := UInt8.toNat_lt _
theorem byteAt_get (s : List UInt8) {a : Nat} (h : a < s.length) : byteAt s a = s[a].toNat := by
  unfold byteAt
  rw [List.getD_eq_getElem?_getD, List.getElem?_eq_getElem h]
  rfl
theorem one_byte (s : List UInt8) {a : Nat} (h : a < s.length) : [s[a]] = [UInt8.ofNat (byteAt s a)] := by
  rw [byteAt_get s h, UInt8.ofNat_toNat]

/-- A head that was read: it is the head of what it tells. -/
theorem rdHead_ok {s : List UInt8} {told e a n fr x : Nat} (kind : Nat) (hk : byteAt s a = kind + told) (ht : told ≤ 63) (ha : a < e) (he : e ≤ s.length) (h : rdHead s told e a = .ok n fr x) :
    sl s a fr = headL kind n ∧ a < fr ∧ fr + n ≤ e := by
  unfold rdHead at h
  by_cases h1 : told ≤ 55
  · rw [if_pos h1] at h
    by_cases h2 : a + 1 + told ≤ e
    · rw [if_pos h2] at h
      injection h with e1 e2 e3
      subst e1 e2
      refine ⟨?_, by omega, by omega⟩
      rw [sl_one s (by omega), one_byte s (by omega), headL, if_pos h1, hk]
    · rw [if_neg h2] at h; cases h
  · rw [if_neg h1] at h
    by_cases h2 : e < a + 1 + (told - 55)
    · rw [if_pos h2] at h; cases h
    · rw [if_neg h2] at h
      obtain ⟨dl, hdl⟩ : ∃ dl, told - 55 = dl := ⟨_, rfl⟩
      rw [hdl] at h h2
      have hds : (s.drop (a + 1)).take dl = sl s (a + 1) (a + 1 + dl) := by unfold sl; rw [show a + 1 + dl - (a + 1) = dl by omega]
      simp only [hds] at h
      by_cases h3 : byteAt s (a + 1) = 0 ∨ val256 0 (sl s (a + 1) (a + 1 + dl)) ≤ 55
      · rw [if_pos h3] at h; cases h
      · rw [if_neg h3] at h
        by_cases h4 : a + 1 + dl + val256 0 (sl s (a + 1) (a + 1 + dl)) ≤ e
        · rw [if_pos h4] at h
          injection h with e1 e2 e3
          subst e2
          have hlen := sl_length s (a + 1) (a + 1 + dl) (by omega)
          have hbare : Bare (sl s (a + 1) (a + 1 + dl)) := by
            intro c r hcr hc
            have hh := sl_append s (a := a + 1) (b := a + 1 + 1) (c := a + 1 + dl) (by omega) (by omega)
            rw [sl_one s (by omega), hcr] at hh
            injection hh with hh _
            refine h3 (.inl ?_)
            rw [byteAt_get s (by omega), hh, hc]
            rfl
          have hd := digs_val _ _ rfl hbare
          rw [e1] at hd h3 h4
          refine ⟨?_, by omega, by omega⟩
          rw [← sl_append s (b := a + 1) (by omega) (by omega), sl_one s (by omega), one_byte s (by omega), headL, if_neg (by omega), hd, hlen, hk]
          rw [show kind + told = kind + 55 + (a + 1 + dl - (a + 1)) by omega]
          rfl
        · rw [if_neg h4] at h; cases h
theorem rdHead_no {s : List UInt8} {told e a x p : Nat} (ha : a < e) (h : rdHead s told e a = .no x p) : a ≤ p ∧ p ≤ e ∧ x ≠ 0 := by
  unfold rdHead at h
  by_cases h1 : told ≤ 55
  · rw [if_pos h1] at h
    by_cases h2 : a + 1 + told ≤ e
    · rw [if_pos h2] at h; cases h
    · rw [if_neg h2] at h; injection h with e1 e2; subst e1 e2; exact ⟨by omega, by omega, by omega⟩
  · rw [if_neg h1] at h
    by_cases h2 : e < a + 1 + (told - 55)
    · rw [if_pos h2] at h; injection h with e1 e2; subst e1 e2; exact ⟨by omega, by omega, by omega⟩
    · rw [if_neg h2] at h
      simp only at h
      split at h
      · injection h with e1 e2; subst e1 e2; exact ⟨by omega, by omega, by omega⟩
      · split at h
        · cases h
        · injection h with e1 e2; subst e1 e2; exact ⟨by omega, by omega, by omega⟩

theorem encI_list (ks : List It) : encI (.mk true ⟨#[]⟩ ks) = headL 192 (encL ks).length ++ encL ks := by rw [encI]; simp
theorem encI_bare (b : ByteArray) (h : bareB b.data.toList = true) : encI (.mk false b []) = b.data.toList := by rw [encI]; simp [h]
theorem encI_text (b : ByteArray) (h : bareB b.data.toList = false) : encI (.mk false b []) = headL 128 b.data.toList.length ++ b.data.toList := by rw [encI]; simp [h]

/-- What was read well. -/
def Good (M : Nat) (s : List UInt8) (d e a m : Nat) (t : It) (a' m' : Nat) : Prop :=
  a < a' ∧ a' ≤ e ∧ sl s a a' = encI t ∧ m' = m + countI t ∧ m' ≤ M ∧ RightI d t
def GoodL (M : Nat) (s : List UInt8) (d e a m : Nat) (ts : List It) (a' m' : Nat) : Prop :=
  a ≤ a' ∧ a' ≤ e ∧ sl s a a' = encL ts ∧ m' = m + countL ts ∧ m' ≤ M ∧ ∀ t ∈ ts, RightI d t
theorem GoodL.snoc {M : Nat} {s : List UInt8} {d e a m : Nat} {ts : List It} {b n : Nat} (h : GoodL M s d e a m ts b n) {t : It} {a' m' : Nat} (k : Good M s d e b n t a' m') : GoodL M s d e a m (ts ++ [t]) a' m' := by
  obtain ⟨h1, h2, h3, h4, h5, h6⟩ := h
  obtain ⟨k1, k2, k3, k4, k5, k6⟩ := k
  refine ⟨by omega, k2, ?_, ?_, k5, ?_⟩
  · rw [← sl_append s h1 (Nat.le_of_lt k1), h3, k3, encL_append]; simp [encL]
  · rw [countL_append]; simp [countL]; omega
  · intro x hx
    rcases List.mem_append.1 hx with hx | hx
    · exact h6 x hx
    · simp at hx; subst hx; exact k6
theorem rdLoop_ok {M : Nat} {s : List UInt8} {d e a m : Nat} {rd : Nat → Nat → Rd It} (hrd : ∀ b n t a' m', b < e → rd b n = .ok t a' m' → Good M s d e b n t a' m') :
    ∀ (f b n : Nat) (acc : List It) (ts : List It) (a' m' : Nat), e ≤ b + f → GoodL M s d e a m acc b n → rdLoop rd e f b n acc = .ok ts a' m' → GoodL M s d e a m ts a' m' ∧ a' = e
  | 0, b, n, acc, ts, a', m', hf, hG, h => by
    rw [rdLoop] at h
    injection h with e1 e2 e3
    subst e1 e2 e3
    exact ⟨hG, by have := hG.2.1; omega⟩
  | f + 1, b, n, acc, ts, a', m', hf, hG, h => by
    rw [rdLoop] at h
    by_cases hb : b < e
    · rw [if_pos hb] at h
      rcases hr : rd b n with ⟨t, b', n'⟩ | ⟨x, p⟩
      · rw [hr] at h
        have hg := hrd b n t b' n' hb hr
        exact rdLoop_ok hrd f b' n' _ ts a' m' (by have := hg.1; omega) (hG.snoc hg) h
      · rw [hr] at h; cases h
    · rw [if_neg hb] at h
      injection h with e1 e2 e3
      subst e1 e2 e3
      exact ⟨hG, by have := hG.2.1; omega⟩

theorem no_ok {α : Type} {x p a m : Nat} {t : α} (h : Rd.no x p = Rd.ok t a m) : False := by cases h
theorem ite_split {α : Type} {c : Prop} [Decidable c] {x y z : α} (h : (if c then x else y) = z) : (c ∧ x = z) ∨ (¬ c ∧ y = z) := by
  by_cases hc : c
  · exact .inl ⟨hc, by rwa [if_pos hc] at h⟩
  · exact .inr ⟨hc, by rwa [if_neg hc] at h⟩
theorem full_split {α : Type} {m k : Nat} {x y z : α} (h : (if k ≤ m then x else y) = z) : z = x ∨ (m < k ∧ y = z) := by
  rcases ite_split h with ⟨_, h⟩ | ⟨h1, h⟩
  · exact .inl h.symm
  · exact .inr ⟨by omega, h⟩
set_option maxRecDepth 100000 in
theorem rdItem_ok (M : Nat) (s : List UInt8) : ∀ (d e a m : Nat) (t : It) (a' m' : Nat), e ≤ s.length → rdItem M s d e a m = .ok t a' m' → Good M s d e a m t a' m'
  | 0, e, a, m, t, a', m', he, h => by rw [rdItem] at h; cases h
  | d + 1, e, a, m, t, a', m', he, h => by
    rw [rdItem] at h
    unfold rdStep at h
    rcases full_split h with h | ⟨h1, h⟩
    · exact (no_ok h.symm).elim
    rcases ite_split h with ⟨_, h⟩ | ⟨h2, h⟩
    · exact (no_ok h).elim
    have ha : a < s.length := by omega
    have hc := byteAt_lt s a
    by_cases h3 : byteAt s a < 128
    · rw [if_pos h3] at h
      injection h with e1 e2 e3
      subst e1 e2 e3
      have hsl : (s.drop a).take 1 = [s[a]] := by have := sl_one s ha; unfold sl at this; rwa [show a + 1 - a = 1 by omega] at this
      rw [byteAt_get s ha] at h3
      refine ⟨by omega, by omega, ?_, by simp [countI, countL], by omega, ?_⟩
      · rw [hsl, encI_bare _ (by simp [bareB, h3]), sl_one s ha]
      · exact ⟨by simp [It.list], by simp [It.kids], by simp [It.kids]⟩
    rw [if_neg h3] at h
    by_cases h4 : byteAt s a < 192
    · rw [if_pos h4] at h
      rcases hh : rdHead s (byteAt s a - 128) e a with ⟨n, fr, x⟩ | ⟨x, p⟩
      · rw [hh] at h
        obtain ⟨g1, g2, g3⟩ := rdHead_ok 128 (by omega) (by omega) (by omega) he hh
        have hsl : (s.drop fr).take n = sl s fr (fr + n) := by unfold sl; rw [show fr + n - fr = n by omega]
        simp only [hsl] at h
        rcases hb : bareB (sl s fr (fr + n)) with _ | _
        · rw [hb] at h
          simp only [Bool.false_eq_true, if_false] at h
          injection h with e1 e2 e3
          subst e1 e2 e3
          have hlen := sl_length s fr (fr + n) (by omega)
          refine ⟨by omega, g3, ?_, by simp [countI, countL], by omega, ?_⟩
          · rw [encI_text _ (by exact hb), ← sl_append s (b := fr) (by omega) (by omega), g1]
            simp only [hlen]
            rw [show fr + n - fr = n by omega]
          · exact ⟨by simp [It.list], by simp [It.kids], by simp [It.kids]⟩
        · rw [hb] at h; simp at h
      · rw [hh] at h; cases h
    rw [if_neg h4] at h
    rcases hh : rdHead s (byteAt s a - 192) e a with ⟨n, fr, x⟩ | ⟨x, p⟩
    · rw [hh] at h
      obtain ⟨g1, g2, g3⟩ := rdHead_ok 192 (by omega) (by omega) (by omega) he hh
      simp only at h
      rw [show fr + n - fr = n by omega] at h
      rcases hl : rdLoop (rdItem M s d (fr + n)) (fr + n) n fr (m + 1) [] with ⟨ks, b', n'⟩ | ⟨x, p⟩
      · rw [hl] at h
        simp only at h
        injection h with e1 e2 e3
        subst e1 e2 e3
        obtain ⟨⟨q1, q2, q3, q4, q5, q6⟩, q7⟩ := rdLoop_ok (s := s) (d := d) (e := fr + n) (a := fr) (m := m + 1) (fun b n' t a' m' _ hr => rdItem_ok M s d (fr + n) b n' t a' m' (by omega) hr) n fr (m + 1) [] ks b' n' (by omega)
          ⟨by omega, by omega, by rw [sl_nil]; simp [encL], by simp [countL], by omega, by simp⟩ hl
        subst q7
        have hlen := sl_length s fr (fr + n) (by omega)
        refine ⟨by omega, by omega, ?_, by rw [countI]; omega, q5, ?_⟩
        · rw [encI_list, ← q3, hlen, show fr + n - fr = n by omega, ← g1, sl_append s (by omega) (by omega)]
        · exact ⟨by simp [It.bytes], by simp [It.list], by simpa [It.kids] using q6⟩
      · rw [hl] at h; cases h
    · rw [hh] at h; cases h

theorem rdLoop_no {d e a0 : Nat} {rd : Nat → Nat → Rd It} {P : Nat → Prop} (hno : ∀ b n x p, a0 ≤ b → b < e → rd b n = .no x p → a0 ≤ p ∧ p ≤ e ∧ x ≠ 0) (hok : ∀ b n t a' m', b < e → rd b n = .ok t a' m' → b < a') :
    ∀ (f b n : Nat) (acc : List It) (x p : Nat), a0 ≤ b → rdLoop rd e f b n acc = .no x p → a0 ≤ p ∧ p ≤ e ∧ x ≠ 0
  | 0, b, n, acc, x, p, _, h => by rw [rdLoop] at h; cases h
  | f + 1, b, n, acc, x, p, hb0, h => by
    rw [rdLoop] at h
    by_cases hb : b < e
    · rw [if_pos hb] at h
      rcases hr : rd b n with ⟨t, b', n'⟩ | ⟨x', p'⟩
      · rw [hr] at h
        exact rdLoop_no (d := d) (P := P) hno hok f b' n' _ x p (by have := hok _ _ _ _ _ hb hr; omega) h
      · rw [hr] at h
        injection h with e1 e2
        subst e1 e2
        exact hno _ _ _ _ hb0 hb hr
    · rw [if_neg hb] at h; cases h
set_option maxRecDepth 100000 in
theorem rdItem_no (M : Nat) (s : List UInt8) : ∀ (d e a m x p : Nat), e ≤ s.length → a ≤ e → rdItem M s d e a m = .no x p → a ≤ p ∧ p ≤ e ∧ x ≠ 0
  | 0, e, a, m, x, p, he, hae, h => by rw [rdItem] at h; injection h with e1 e2; subst e1 e2; exact ⟨by omega, by omega, by omega⟩
  | d + 1, e, a, m, x, p, he, hae, h => by
    rw [rdItem] at h
    unfold rdStep at h
    rcases full_split h with h | ⟨h1, h⟩
    · injection h with e1 e2; subst e1 e2; exact ⟨by omega, by omega, by omega⟩
    rcases ite_split h with ⟨_, h⟩ | ⟨h2, h⟩
    · injection h with e1 e2; subst e1 e2; exact ⟨by omega, by omega, by omega⟩
    have hc := byteAt_lt s a
    by_cases h3 : byteAt s a < 128
    · rw [if_pos h3] at h; cases h
    rw [if_neg h3] at h
    by_cases h4 : byteAt s a < 192
    · rw [if_pos h4] at h
      rcases hh : rdHead s (byteAt s a - 128) e a with ⟨n, fr, x'⟩ | ⟨x', p'⟩
      · rw [hh] at h
        simp only at h
        split at h
        · injection h with e1 e2; subst e1 e2; exact ⟨by omega, by omega, by omega⟩
        · cases h
      · rw [hh] at h; injection h with e1 e2; subst e1 e2; exact rdHead_no (by omega) hh
    rw [if_neg h4] at h
    rcases hh : rdHead s (byteAt s a - 192) e a with ⟨n, fr, x'⟩ | ⟨x', p'⟩
    · rw [hh] at h
      obtain ⟨g1, g2, g3⟩ := rdHead_ok 192 (by omega) (by omega) (by omega) he hh
      simp only at h
      rw [show fr + n - fr = n by omega] at h
      rcases hl : rdLoop (rdItem M s d (fr + n)) (fr + n) n fr (m + 1) [] with ⟨ks, b', n'⟩ | ⟨x', p'⟩
      · rw [hl] at h; cases h
      · rw [hl] at h
        injection h with e1 e2
        subst e1 e2
        have := rdLoop_no (d := 0) (P := fun _ => True) (e := fr + n) (a0 := fr) (rd := rdItem M s d (fr + n)) (fun b n' x p hb hbe hr => by
          have := rdItem_no M s d (fr + n) b n' x p (by omega) (by omega) hr
          exact ⟨by omega, this.2.1, this.2.2⟩) (fun b n' t a' m' hb hr => (rdItem_ok M s d (fr + n) b n' t a' m' (by omega) hr).1) n fr (m + 1) [] x' p' (by omega) hl
        exact ⟨by omega, by omega, this.2.2⟩
    · rw [hh] at h; injection h with e1 e2; subst e1 e2; exact rdHead_no (by omega) hh
end Go.Proofs.YtbbpmcebakckaaaGreatDoor
