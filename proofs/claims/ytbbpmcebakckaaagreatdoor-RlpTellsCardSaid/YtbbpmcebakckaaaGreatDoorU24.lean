import Derived.Test.YtbbpmcebakckaaaGreatDoorU23
import Derived.Test.YtbbpmcebakckaaaGreatDoorU20
import Derived.Test.YtbbpmcebakckaaaGreatDoorU21
/- Items of raw numbers may be, and are told in full; one and two of them, in contracts of their own. Conditions: the raw numbers lie in memory. -/
namespace Go.Proofs.YtbbpmcebakckaaaGreatDoor
open Go Go.RowKit

theorem right_more : ∀ (d e : Nat) (t : It), d ≤ e → RightI d t → RightI e t
  | 0, _, _, _, h => h.elim
  | d + 1, 0, _, h, _ => absurd h (by omega)
  | d + 1, e + 1, t, h, hr => ⟨hr.1, hr.2.1, fun k hk => right_more d e k (by omega) (hr.2.2 k hk)⟩
theorem okI_small {n d : Nat} {t : It} (hn : n ≤ 9) (hd : d ≤ 15) (h : SmallI n d t) : okI t = true ∧ countI t ≤ 512 ∧ (encI t).length ≤ 40448 := by
  have hp : 2 ^ n ≤ 2 ^ 9 := Nat.pow_le_pow_right (by decide) hn
  have h9 : (2 : Nat) ^ 9 = 512 := by decide
  have h1 := h.2.1
  have h2 := h.2.2
  refine ⟨?_, by omega, by omega⟩
  unfold okI
  rw [(rightB_iff 16 t).2 (right_more _ _ _ (by omega) h.1), decide_eq_true (by omega : countI t ≤ 5000)]
  rfl
/-- Item, and what its bytes are. -/
theorem raw_good (deep : Nat) (hd : deep ≤ 14) (v : Value) (zs : List (Int × Int)) (w : World) (hr : RawAt w v zs) : Calls Tryz.prog 5 #[v, .int .i64 (deep : Int)] w
    fun e W' => ∃ t u, e = .returned u ∧ ItemS W' (fun b => w.heap.size ≤ b) t u ∧ (okI t = true ∧ RightI (deep + 2) t ∧ countI t ≤ 512 ∧ (encI t).length ≤ 40448) ∧ Below w.heap.size w W' :=
  (raw_ok deep hd v zs w hr).mono fun e W' ⟨t, u, h1, h2, h3, h4⟩ => by
    obtain ⟨g1, g2, g3⟩ := okI_small (by omega) (by omega) h3
    exact ⟨t, u, h1, h2, ⟨g1, h3.1, g2, g3⟩, h4⟩
/-- Encode of an item that may be. -/
theorem enc_good (t : It) (ho : okI t = true) (hc : countI t ≤ 5000) (hl : (encI t).length ≤ 1048576) (v : Value) (w : World) (ht : ItemAt w t v) :
    Calls Tryz.prog 10 #[v] w fun e w' => e = .returned (.tuple #[.string ⟨(encI t).toArray⟩, .int .i64 0]) ∧ Below w.heap.size w w' := by
  have h := encode_any t (by omega) (by omega) v w ht
  have e1 := encE_good ho hl
  rw [encS_good e1, e1] at h
  exact h
end Go.Proofs.YtbbpmcebakckaaaGreatDoor
