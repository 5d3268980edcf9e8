/- Lists of keys as sets. Conditions: none. -/
import Derived.Test.YtbkgipggblphlaaAcS
namespace Go.Proofs.Ytbkgipggblphlaa
open Go Go.RowKit

/-- A key put into a list that rises. -/
noncomputable def insK (x : Ky) : List Ky → List Ky
  | [] => [x]
  | y :: r => if kcmp x y < 0 then x :: y :: r else if kcmp x y = 0 then y :: r else y :: insK x r
theorem insK_mem (x : Ky) : ∀ (l : List Ky) (z : Ky), z ∈ insK x l ↔ z = x ∨ z ∈ l
  | [], z => by simp [insK]
  | y :: r, z => by
    unfold insK
    split
    · simp
    · split
      · rename_i h
        have := kcmp_zero.1 h
        subst this
        simp
      · rw [List.mem_cons, insK_mem x r, List.mem_cons]
        constructor
        · rintro (h | h | h)
          · exact .inr (.inl h)
          · exact .inl h
          · exact .inr (.inr h)
        · rintro (h | h | h)
          · exact .inr (.inl h)
          · exact .inl h
          · exact .inr (.inr h)
theorem insK_up (x : Ky) : ∀ (l : List Ky), Kup l → Kup (insK x l)
  | [], _ => List.pairwise_singleton _ _
  | y :: r, h => by
    have h1 := List.pairwise_cons.1 h
    unfold insK
    split
    · rename_i hlt
      refine List.pairwise_cons.2 ⟨fun z hz => ?_, h⟩
      rcases List.mem_cons.1 hz with rfl | hz
      · exact hlt
      · exact Kl.trans hlt (h1.1 z hz)
    · split
      · exact h
      · rename_i h2 h3
        refine List.pairwise_cons.2 ⟨fun z hz => ?_, insK_up x r h1.2⟩
        rcases (insK_mem x r z).1 hz with rfl | hz
        · rcases kcmp_tri z y with ⟨h, _⟩ | ⟨_, h⟩ | ⟨h, _⟩
          · exact absurd h h2
          · exact absurd h h3
          · exact h
        · exact h1.1 z hz
theorem insK_len (x : Ky) : ∀ (l : List Ky), (insK x l).length ≤ l.length + 1
  | [] => Nat.le_refl _
  | y :: r => by
    unfold insK
    split
    · simp
    · split
      · simp
      · have := insK_len x r
        simp only [List.length_cons]
        omega
/-- The set of a list. -/
noncomputable def setL (l : List Ky) : List Ky := l.foldl (fun s x => insK x s) []
theorem setL_snoc (l : List Ky) (x : Ky) : setL (l ++ [x]) = insK x (setL l) := by simp [setL]
theorem foldK (l : List Ky) : ∀ s : List Ky, Kup s → Kup (l.foldl (fun s x => insK x s) s) ∧ ∀ z, z ∈ l.foldl (fun s x => insK x s) s ↔ z ∈ s ∨ z ∈ l := by
  induction l with
  | nil => intro s h; exact ⟨h, fun z => by simp⟩
  | cons x r ih =>
    intro s h
    obtain ⟨h1, h2⟩ := ih (insK x s) (insK_up x s h)
    refine ⟨h1, fun z => ?_⟩
    rw [List.foldl_cons, h2, insK_mem, List.mem_cons]
    constructor
    · rintro ((h | h) | h)
      · exact .inr (.inl h)
      · exact .inl h
      · exact .inr (.inr h)
    · rintro (h | h | h)
      · exact .inl (.inr h)
      · exact .inl (.inl h)
      · exact .inr h
theorem setL_up (l : List Ky) : Kup (setL l) := (foldK l [] List.Pairwise.nil).1
theorem setL_mem (l : List Ky) (z : Ky) : z ∈ setL l ↔ z ∈ l := by
  have := (foldK l [] List.Pairwise.nil).2 z
  simpa [setL] using this
theorem setL_len (l : List Ky) : (setL l).length ≤ l.length := by
  have key : ∀ (l s : List Ky), (l.foldl (fun s x => insK x s) s).length ≤ s.length + l.length := by
    intro l
    induction l with
    | nil => intro s; simp
    | cons x r ih =>
      intro s
      have h1 := ih (insK x s)
      have h2 := insK_len x s
      rw [List.foldl_cons, List.length_cons]
      omega
  simpa [setL] using key l []
/-- Two lists that rise, of the same keys, are the same. -/
theorem kup_ext : ∀ {a b : List Ky}, Kup a → Kup b → (∀ x, x ∈ a ↔ x ∈ b) → a = b
  | [], [], _, _, _ => rfl
  | [], y :: b, _, _, h => absurd ((h y).2 (by simp)) (by simp)
  | x :: a, [], _, _, h => absurd ((h x).1 (by simp)) (by simp)
  | x :: a, y :: b, ha, hb, h => by
    have h1 := List.pairwise_cons.1 ha
    have h2 := List.pairwise_cons.1 hb
    have hxy : x = y := by
      rcases List.mem_cons.1 ((h x).1 (by simp)) with e | e
      · exact e
      · rcases List.mem_cons.1 ((h y).2 (by simp)) with e' | e'
        · exact e'.symm
        · exact absurd ((h2.1 x e).trans (h1.1 y e')) (Kl.irrefl y)
    subst hxy
    rw [kup_ext h1.2 h2.2 (fun z => ?_)]
    have hz := h z
    rw [List.mem_cons, List.mem_cons] at hz
    constructor
    · intro k
      rcases hz.1 (.inr k) with e | e
      · subst e; exact absurd (h1.1 z k) (Kl.irrefl z)
      · exact e
    · intro k
      rcases hz.2 (.inr k) with e | e
      · subst e; exact absurd (h2.1 z k) (Kl.irrefl z)
      · exact e
theorem setL_eq {l s : List Ky} (h : Kup s) (hm : ∀ x, x ∈ s ↔ x ∈ l) : s = setL l := kup_ext h (setL_up l) (fun x => (hm x).trans (setL_mem l x).symm)
theorem setL_same {l m : List Ky} (h : ∀ x, x ∈ l ↔ x ∈ m) : setL l = setL m := kup_ext (setL_up l) (setL_up m) (fun x => by rw [setL_mem, setL_mem, h])
theorem setL_self {l : List Ky} (h : Kup l) : setL l = l := (setL_eq h (fun _ => Iff.rfl)).symm
/-- What Make makes. -/
noncomputable def makeM (r s : List Ky) : List Ky × List Ky × Nat :=
  if r.any strayB || s.any strayB then ([], [], 1) else if 200 < (setL r).length ∨ 200 < (setL s).length then ([], [], 2) else (setL r, setL s, 0)
theorem makeM_ok {r s : List Ky} (h1 : r.any strayB = false) (h2 : s.any strayB = false) (h3 : (setL r).length ≤ 200) (h4 : (setL s).length ≤ 200) : makeM r s = (setL r, setL s, 0) := by
  unfold makeM
  rw [h1, h2, if_neg (by decide), if_neg (by omega)]
end Go.Proofs.Ytbkgipggblphlaa
