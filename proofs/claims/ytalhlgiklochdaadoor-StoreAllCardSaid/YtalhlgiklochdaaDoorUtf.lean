/-
  The machine of package utf in plain words: states, steps, what a text becomes.
-/
namespace Go.Proofs.YtalhlgiklochdaaDoor

/-- What a Reader holds. -/
structure St where
  sign : Int
  waits : Int
  missing : Int
  low : Int
  high : Int
def st0 : St := ⟨0, 0, 0, 0, 0⟩
def brk (st : St) : List Int := if st.waits = 0 then [] else [65533]
/-- How many bytes follow the first one, and where the second one lies. -/
def fol (b : Int) : Int × Int × Int :=
  if b < 194 then (0, 0, 0) else if b < 224 then (1, 128, 191) else if b = 224 then (2, 160, 191) else if b = 237 then (2, 128, 159)
  else if b < 240 then (2, 128, 191) else if b = 240 then (3, 144, 191) else if b < 244 then (3, 128, 191) else if b = 244 then (3, 128, 143) else (0, 0, 0)
/-- The bits of a first byte that are the sign's. -/
def lead (b m : Int) : Int := if m = 1 then b % 32 else if m = 2 then b % 16 else b % 8
def begS (b : Int) : St := if b < 128 then st0 else if (fol b).1 = 0 then st0 else ⟨lead b (fol b).1, 1, (fol b).1, (fol b).2.1, (fol b).2.2⟩
def begO (b : Int) : List Int := if b < 128 then [b] else if (fol b).1 = 0 then [65533] else []
def onS (st : St) (b : Int) : St := if st.missing = 1 then st0 else ⟨st.sign * 64 + b % 64, st.waits + 1, st.missing - 1, 128, 191⟩
def onO (st : St) (b : Int) : List Int := if st.missing = 1 then [st.sign * 64 + b % 64] else []
def goes (st : St) (b : Int) : Prop := 0 < st.waits ∧ st.low ≤ b ∧ b ≤ st.high
instance (st : St) (b : Int) : Decidable (goes st b) := by unfold goes; exact inferInstance
def stS (st : St) (b : Int) : St := if goes st b then onS st b else begS b
def stO (st : St) (b : Int) : List Int := if goes st b then onO st b else brk st ++ begO b

/-- A state that can be. -/
structure St.ok (st : St) : Prop where
  zero : st.waits = 0 → st = st0
  waits : 0 ≤ st.waits ∧ st.waits ≤ 3
  missing : 0 ≤ st.missing ∧ st.missing ≤ 3
  pos : 0 < st.waits → 0 < st.missing
  sum : st.waits + st.missing ≤ 4
  sign : 0 ≤ st.sign ∧ (st.waits = 1 → st.sign < 32) ∧ (st.waits = 2 → st.sign < 2048) ∧ (st.waits = 3 → st.sign < 131072)
  low : 0 ≤ st.low ∧ st.low ≤ 255
  high : 0 ≤ st.high ∧ st.high ≤ 191

theorem fol_cases (b : Int) : ((b < 194 ∨ 244 < b) ∧ fol b = (0, 0, 0)) ∨ (194 ≤ b ∧ b < 224 ∧ fol b = (1, 128, 191)) ∨ (b = 224 ∧ fol b = (2, 160, 191)) ∨ (b = 237 ∧ fol b = (2, 128, 159)) ∨ (224 < b ∧ b < 240 ∧ b ≠ 237 ∧ fol b = (2, 128, 191)) ∨ (b = 240 ∧ fol b = (3, 144, 191)) ∨ (240 < b ∧ b < 244 ∧ fol b = (3, 128, 191)) ∨ (b = 244 ∧ fol b = (3, 128, 143)) := by
  unfold fol
  by_cases h1 : b < 194
  · left; exact ⟨.inl h1, by simp [h1]⟩
  · by_cases h2 : b < 224
    · right; left; exact ⟨by omega, h2, by simp [h1, h2]⟩
    · by_cases h3 : b = 224
      · right; right; left; exact ⟨h3, by simp [h3]⟩
      · by_cases h4 : b = 237
        · right; right; right; left; exact ⟨h4, by simp [h4]⟩
        · by_cases h5 : b < 240
          · right; right; right; right; left; exact ⟨by omega, h5, h4, by simp [h1, h2, h3, h4, h5]⟩
          · by_cases h6 : b = 240
            · right; right; right; right; right; left; exact ⟨h6, by simp [h6]⟩
            · by_cases h7 : b < 244
              · right; right; right; right; right; right; left; exact ⟨by omega, h7, by simp [h1, h2, h3, h4, h5, h6, h7]⟩
              · by_cases h8 : b = 244
                · right; right; right; right; right; right; right; exact ⟨h8, by simp [h8]⟩
                · left; exact ⟨.inr (by omega), by simp [h1, h2, h3, h4, h5, h6, h7, h8]⟩

theorem st0_ok : st0.ok := by constructor <;> simp [st0]
theorem begS_ok (b : Int) (_h0 : 0 ≤ b) : (begS b).ok := by
  unfold begS
  split
  · exact st0_ok
  · split
    · exact st0_ok
    · rename_i h1 h2
      rcases fol_cases b with ⟨_, e⟩ | ⟨_, _, e⟩ | ⟨_, e⟩ | ⟨_, e⟩ | ⟨_, _, _, e⟩ | ⟨_, e⟩ | ⟨_, _, e⟩ | ⟨_, e⟩ <;> rw [e] at h2 ⊢
      · exact absurd rfl h2
      all_goals constructor <;> simp [lead] <;> omega
theorem onS_ok (st : St) (b : Int) (h : st.ok) (hp : 0 < st.waits) (_h0 : 0 ≤ b) : (onS st b).ok := by
  have a1 := h.waits; have a2 := h.missing; have a3 := h.pos hp; have a4 := h.sum; have a5 := h.sign
  unfold onS
  split
  · exact st0_ok
  · constructor <;> simp <;> omega
theorem stS_ok (st : St) (b : Int) (h : st.ok) (h0 : 0 ≤ b) : (stS st b).ok := by
  unfold stS
  split
  · rename_i g; exact onS_ok st b h g.1 h0
  · exact begS_ok b h0

/-- A text read on from a state: what it becomes, and the state behind it. -/
def runS (st : St) : List Int → St
  | [] => st
  | b :: l => runS (stS st b) l
def runO (st : St) : List Int → List Int
  | [] => []
  | b :: l => stO st b ++ runO (stS st b) l
theorem runS_append (l m : List Int) : ∀ st, runS st (l ++ m) = runS (runS st l) m := by
  induction l with
  | nil => intro st; rfl
  | cons b l ih => intro st; exact ih _
theorem runO_append (l m : List Int) : ∀ st, runO st (l ++ m) = runO st l ++ runO (runS st l) m := by
  induction l with
  | nil => intro st; rfl
  | cons b l ih => intro st; simp only [List.cons_append, runO, runS, ih, List.append_assoc]
theorem runS_ok (l : List Int) : ∀ st : St, st.ok → (∀ b ∈ l, 0 ≤ b) → (runS st l).ok := by
  induction l with
  | nil => intro st h _; exact h
  | cons b l ih => intro st h hb; exact ih _ (stS_ok st b h (hb b (by simp))) fun x hx => hb x (by simp [hx])
theorem stO_length (st : St) (b : Int) : (stO st b).length ≤ 2 := by
  have h1 : (onO st b).length ≤ 1 := by unfold onO; split <;> simp
  have h2 : (brk st).length ≤ 1 := by unfold brk; split <;> simp
  have h3 : (begO b).length ≤ 1 := by unfold begO; split; · simp
                                      split <;> simp
  unfold stO
  split
  · omega
  · rw [List.length_append]; omega
theorem runO_length (l : List Int) : ∀ st, (runO st l).length ≤ 2 * l.length := by
  induction l with
  | nil => intro st; simp [runO]
  | cons b l ih =>
    intro st
    have h1 := stO_length st b
    have h2 := ih (stS st b)
    simp only [runO, List.length_append, List.length_cons]
    omega
theorem brk_length (st : St) : (brk st).length ≤ 1 := by unfold brk; split <;> simp
/-- All signs of a text. -/
def allO (l : List Int) : List Int := runO st0 l ++ brk (runS st0 l)
end Go.Proofs.YtalhlgiklochdaaDoor
