/- Put and Get. Conditions: the slots lie in memory. -/
import Derived.Test.YtcannohmbaaceaaTabG
namespace Go.Proofs.Ytcannohmbaaceaa
open Go Go.RowKit
attribute [local go_sem] Oper.semAt_some Grows wide_fn eq4

theorem patchB_one (x : Sl) : patchB [x] = true := (patchB_iff _).2 ⟨by simp, by unfold Rise; simp⟩
theorem slots_one {W : World} {B : Nat} {k v : Nat} (h : Has W B 31 #[.int .u64 (lim k 0), .int .u64 (lim k 1), .int .u64 (lim k 2), .int .u64 (lim k 3), .int .u64 (lim v 0), .int .u64 (lim v 1), .int .u64 (lim v 2), .int .u64 (lim v 3)]) (hk : W256 k) (hv : W256 v) : SlotsAt W (.slice (some ⟨B, 0, none⟩) 1 1) [(k, v)] := by
  refine ⟨some ⟨B, 0, none⟩, 1, rfl, by simp, by omega, fun x hx => by simp at hx; subst hx; exact ⟨hk, hv⟩, fun i x hx => ?_⟩
  have hi : i = 0 := by
    have := (List.getElem?_eq_some_iff.1 hx).1
    simp at this
    exact this
  subst hi
  injection hx with hx
  subst hx
  refine ⟨_, rfl, fun j hj => ?_⟩
  rw [Addr.add_add]
  obtain rfl | rfl | rfl | rfl | rfl | rfl | rfl | rfl : j = 0 ∨ j = 1 ∨ j = 2 ∨ j = 3 ∨ j = 4 ∨ j = 5 ∨ j = 6 ∨ j = 7 := by omega
  · exact h.cell 0 _ rfl
  · exact h.cell 1 _ rfl
  · exact h.cell 2 _ rfl
  · exact h.cell 3 _ rfl
  · exact h.cell 4 _ rfl
  · exact h.cell 5 _ rfl
  · exact h.cell 6 _ rfl
  · exact h.cell 7 _ rfl
theorem DoneP.lower {W V : World} {ok : Bool} {out : List Sl} {e : Ending} {W' : World} (h : DoneP V ok out e W') (hb : Below W.heap.size W V) : DoneP W ok out e W' := by
  refine ⟨?_, hb.trans (h.2.mono hb.size)⟩
  rcases h.1 with ⟨h1, h2, sv, h3, h4⟩ | h1 | h1
  · exact .inl ⟨h1, h2, sv, h3, h4.lower hb.size⟩
  · exact .inr (.inl h1)
  · exact .inr (.inr h1)
theorem DoneP.two {W : World} {ok : Bool} {out : List Sl} {e : Ending} {W' : World} (h : DoneP W ok out e W') : ∃ a b, e = .returned (.tuple #[a, b]) := by
  rcases h.1 with ⟨_, _, sv, h3, _⟩ | ⟨_, _, h3⟩ | ⟨_, h3⟩
  · exact ⟨_, _, h3⟩
  · exact ⟨_, _, h3⟩
  · exact ⟨_, _, h3⟩
set_option maxRecDepth 100000 in
set_option maxHeartbeats 2000000 in
theorem put_any (W : World) (sv : Value) (l : List Sl) (hs : SlotsAt W sv l) (k v : Nat) (hk : W256 k) (hv : W256 v) :
    Calls Try.prog 15 #[sv, wv k, wv v] W (DoneP W (rightB' l) (mergeL l [(k, v)])) := by
  have K1 := (Has.new W 26 #[.int .u64 (lim k 0), .int .u64 (lim k 1), .int .u64 (lim k 2), .int .u64 (lim k 3)]).alloc (.cells #[.int .u64 (lim v 0), .int .u64 (lim v 1), .int .u64 (lim v 2), .int .u64 (lim v 3)] 26)
  have K2 := Has.new (W.alloc (.cells #[.int .u64 (lim k 0), .int .u64 (lim k 1), .int .u64 (lim k 2), .int .u64 (lim k 3)] 26)) 26 #[.int .u64 (lim v 0), .int .u64 (lim v 1), .int .u64 (lim v 2), .int .u64 (lim v 3)]
  have K3 := Has.new ((W.alloc (.cells #[.int .u64 (lim k 0), .int .u64 (lim k 1), .int .u64 (lim k 2), .int .u64 (lim k 3)] 26)).alloc (.cells #[.int .u64 (lim v 0), .int .u64 (lim v 1), .int .u64 (lim v 2), .int .u64 (lim v 3)] 26)) 31 #[.int .u64 (lim k 0), .int .u64 (lim k 1), .int .u64 (lim k 2), .int .u64 (lim k 3), .int .u64 (lim v 0), .int .u64 (lim v 1), .int .u64 (lim v 2), .int .u64 (lim v 3)]
  simp only [World.size_alloc] at K2 K3
  have Q := Lib.hid ((((Below.refl W.heap.size W).alloc (Nat.le_refl _) (.cells #[.int .u64 (lim k 0), .int .u64 (lim k 1), .int .u64 (lim k 2), .int .u64 (lim k 3)] 26)).alloc (by simp) (.cells #[.int .u64 (lim v 0), .int .u64 (lim v 1), .int .u64 (lim v 2), .int .u64 (lim v 3)] 26)).alloc (by simp; omega) (.cells #[.int .u64 (lim k 0), .int .u64 (lim k 1), .int .u64 (lim k 2), .int .u64 (lim k 3), .int .u64 (lim v 0), .int .u64 (lim v 1), .int .u64 (lim v 2), .int .u64 (lim v 3)] 31))
  have a0 := K1.cell 0 _ rfl
  have b0 := K2.cell 0 _ rfl
  have a1 := K1.cell 1 _ rfl
  have b1 := K2.cell 1 _ rfl
  have a2 := K1.cell 2 _ rfl
  have b2 := K2.cell 2 _ rfl
  have a3 := K1.cell 3 _ rfl
  have b3 := K2.cell 3 _ rfl
  have HM := Lib.hid (merge_any (((W.alloc (.cells #[.int .u64 (lim k 0), .int .u64 (lim k 1), .int .u64 (lim k 2), .int .u64 (lim k 3)] 26)).alloc (.cells #[.int .u64 (lim v 0), .int .u64 (lim v 1), .int .u64 (lim v 2), .int .u64 (lim v 3)] 26)).alloc (.cells #[.int .u64 (lim k 0), .int .u64 (lim k 1), .int .u64 (lim k 2), .int .u64 (lim k 3), .int .u64 (lim v 0), .int .u64 (lim v 1), .int .u64 (lim v 2), .int .u64 (lim v 3)] 31)) sv (.slice (some ⟨W.heap.size + 1 + 1, 0, none⟩) 1 1) l [(k, v)] (hs.later Q.out) (slots_one K3 hk hv))
  rw [patchB_one, Bool.and_true] at HM
  unfold wv
  generalize rightB' l = ok at *
  generalize mergeL l [(k, v)] = out at *
  clear hs hk hv
  generalize lim k 0 = k0 at *
  generalize lim k 1 = k1 at *
  generalize lim k 2 = k2 at *
  generalize lim k 3 = k3 at *
  generalize lim v 0 = v0 at *
  generalize lim v 1 = v1 at *
  generalize lim v 2 = v2 at *
  generalize lim v 3 = v3 at *
  replace K1 := Lib.hid K1
  replace K2 := Lib.hid K2
  replace K3 := Lib.hid K3
  go_enter Try.func15, Try.ntmps15
  go_wp2_with fail
  refine HM.out.mono ?_
  intro e W5 hd
  obtain ⟨x, y, rfl⟩ := hd.two
  have HD := Lib.hid (hd.lower Q.out)
  clear hd HM a0 a1 a2 a3 b0 b1 b2 b3
  go_wp2_with fail
  go_ret2
  exact HD.out
end Go.Proofs.Ytcannohmbaaceaa
