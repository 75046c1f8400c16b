/-
  Numbers of seven bits a byte in plain words: what a number becomes, what is read at the beginning of bytes; that the one is the other's way back. Runs of alike things.
  Rows as bytes in plain words: what a row becomes; what is read at the beginning of bytes; that the one is the other's way back.
  Runs of alike things, built up from the front: what becomes of them when one thing more comes.
-/
import Derived.Test.YtalhlgiklochdaaDoorSpans
namespace Go.Proofs.YtalhlgiklochdaaDoor

/-- A number as bytes, the lowest seven bits first. -/
def uintL (n : Nat) : List Int := if n < 128 then [(n : Int)] else ((n % 128 + 128 : Nat) : Int) :: uintL (n / 128)
termination_by n
decreasing_by omega
theorem uintL_small {n : Nat} (h : n < 128) : uintL n = [(n : Int)] := by rw [uintL, if_pos h]
theorem uintL_big {n : Nat} (h : ¬ n < 128) : uintL n = ((n % 128 + 128 : Nat) : Int) :: uintL (n / 128) := by rw [uintL, if_neg h]
/-- What stands at the beginning of bytes, of which so many have been read: the number, how many bytes; 0, 0: none. -/
def getGo (i acc : Nat) : List Int → Nat × Nat
  | [] => (0, 0)
  | x :: b => if 10 ≤ i then (0, 0) else if 128 ≤ x then getGo (i + 1) (acc + (x.toNat % 128) * 128 ^ i) b else if (0 < i ∧ x = 0) ∨ (i = 9 ∧ 1 < x) then (0, 0) else (acc + x.toNat * 128 ^ i, i + 1)
def getL (b : List Int) : Nat × Nat := getGo 0 0 b

theorem pow_nine {i n : Nat} (h : n * 128 ^ i < 2 ^ 64) (hn : 1 ≤ n) : i ≤ 9 := by
  rcases Nat.lt_or_ge 9 i with h9 | h9
  · have h1 : 128 ^ 10 ≤ 128 ^ i := Nat.pow_le_pow_right (by omega) h9
    have h2 : 128 ^ i ≤ n * 128 ^ i := Nat.le_mul_of_pos_left _ hn
    have h3 : (128 : Nat) ^ 10 = 1180591620717411303424 := by decide
    have h4 : (2 : Nat) ^ 64 = 18446744073709551616 := by decide
    omega
  · exact h9
theorem get_put : ∀ (n i acc : Nat) (m : List Int), (0 < i → 1 ≤ n) → n * 128 ^ i < 2 ^ 64 → getGo i acc (uintL n ++ m) = (acc + n * 128 ^ i, i + (uintL n).length) := by
  intro n
  induction n using Nat.strongRecOn with
  | ind n ih =>
    intro i acc m hi hn
    have hi9 : i ≤ 9 := by
      rcases Nat.eq_zero_or_pos i with h | h
      · omega
      · exact pow_nine hn (hi h)
    by_cases h : n < 128
    · rw [uintL_small h]
      simp only [List.cons_append, List.nil_append, getGo]
      have hlast : i = 9 → n ≤ 1 := by
        rintro rfl
        have h3 : (128 : Nat) ^ 9 = 9223372036854775808 := by decide
        have h4 : (2 : Nat) ^ 64 = 18446744073709551616 := by decide
        omega
      rw [if_neg (by omega), if_neg (by omega), if_neg (by
        rintro (⟨h1, h2⟩ | ⟨h1, h2⟩)
        · have := hi h1; omega
        · have := hlast h1; omega)]
      simp
    · rw [uintL_big h]
      simp only [List.cons_append, getGo]
      have hdiv : n / 128 * 128 + n % 128 = n := Nat.div_add_mod' n 128
      have hpow : (128 : Nat) ^ (i + 1) = 128 * 128 ^ i := by rw [Nat.pow_succ, Nat.mul_comm]
      have hle : n / 128 * 128 ^ (i + 1) ≤ n * 128 ^ i := by
        rw [hpow, ← Nat.mul_assoc]
        exact Nat.mul_le_mul_right _ (by omega)
      rw [if_neg (by omega), if_pos (by omega), ih (n / 128) (by omega) (i + 1) _ m (fun _ => by omega) (by omega)]
      have ht : (((n % 128 + 128 : Nat) : Int).toNat) % 128 = n % 128 := by
        rw [Int.toNat_natCast]; omega
      rw [ht, hpow]
      have hsum : (n % 128) * 128 ^ i + n / 128 * (128 * 128 ^ i) = n * 128 ^ i := by
        rw [← Nat.mul_assoc, ← Nat.add_mul]
        congr 1
        omega
      simp only [List.length_cons, Prod.mk.injEq]
      exact ⟨by omega, by omega⟩
theorem getL_put (n : Nat) (m : List Int) (h : n < 2 ^ 64) : getL (uintL n ++ m) = (n, (uintL n).length) := by
  unfold getL
  rw [get_put n 0 0 m (fun h => absurd h (Nat.lt_irrefl 0)) (by simpa using h)]
  simp
theorem get_some : ∀ (b : List Int) (i acc v k : Nat), (∀ x ∈ b, 0 ≤ x ∧ x ≤ 255) → getGo i acc b = (v, k) → k ≠ 0 → ∃ n, v = acc + n * 128 ^ i ∧ (0 < i → 1 ≤ n) ∧ n * 128 ^ i < 2 ^ 64 ∧ i < k ∧ k ≤ i + b.length ∧ b.take (k - i) = uintL n := by
  intro b
  induction b with
  | nil => intro i acc v k _ h hk; simp only [getGo, Prod.mk.injEq] at h; omega
  | cons x b ih =>
    intro i acc v k hb h hk
    have hx := hb x (by simp)
    unfold getGo at h
    by_cases h10 : 10 ≤ i
    · rw [if_pos h10] at h; simp only [Prod.mk.injEq] at h; omega
    · rw [if_neg h10] at h
      have hp : (128 : Nat) ^ i ≤ 128 ^ 9 := Nat.pow_le_pow_right (by omega) (by omega)
      have h9 : (128 : Nat) ^ 9 = 9223372036854775808 := by decide
      have h64 : (2 : Nat) ^ 64 = 18446744073709551616 := by decide
      by_cases h128 : 128 ≤ x
      · rw [if_pos h128] at h
        obtain ⟨n, hv, hn1, hn2, hik, hkl, ht⟩ := ih (i + 1) _ v k (fun y hy => hb y (by simp [hy])) h hk
        have hn : 1 ≤ n := hn1 (by omega)
        obtain ⟨y, rfl⟩ : ∃ y : Nat, x = ((y + 128 : Nat) : Int) := ⟨(x - 128).toNat, by omega⟩
        have hy : y < 128 := by omega
        have hpow : (128 : Nat) ^ (i + 1) = 128 * 128 ^ i := by rw [Nat.pow_succ, Nat.mul_comm]
        have hyt : (((y + 128 : Nat) : Int).toNat) % 128 = y := by rw [Int.toNat_natCast]; omega
        rw [hyt] at hv
        rw [hpow] at hv hn2
        have hsum : (n * 128 + y) * 128 ^ i = n * (128 * 128 ^ i) + y * 128 ^ i := by rw [Nat.add_mul, Nat.mul_assoc]
        refine ⟨n * 128 + y, by rw [hsum]; omega, fun _ => by omega, ?_, by omega, by simp only [List.length_cons]; omega, ?_⟩
        · rw [hsum]
          have hi9 := pow_nine (i := i + 1) (n := n) (by rw [hpow]; exact hn2) hn
          have h8 : (128 : Nat) ^ i ≤ 128 ^ 8 := Nat.pow_le_pow_right (by omega) (by omega)
          -- y stands below the seven bits that n begins at
          have hdvd : n * (128 * 128 ^ i) + 128 * 128 ^ i ≤ 2 ^ 64 := by
            have e : (2 : Nat) ^ 64 = (2 ^ (64 - 7 * (i + 1))) * (128 * 128 ^ i) := by
              have : (128 : Nat) * 128 ^ i = 2 ^ (7 * (i + 1)) := by rw [← hpow, show (128 : Nat) = 2 ^ 7 by decide, ← Nat.pow_mul]
              rw [this, ← Nat.pow_add]
              congr 1
              omega
            rw [e] at hn2 ⊢
            have hpos : 0 < 128 * 128 ^ i := by have := Nat.pow_pos (n := i) (show 0 < 128 by omega); omega
            have hlt : n < 2 ^ (64 - 7 * (i + 1)) := Nat.lt_of_mul_lt_mul_right hn2
            have := Nat.mul_le_mul_right (128 * 128 ^ i) (show n + 1 ≤ 2 ^ (64 - 7 * (i + 1)) by omega)
            rw [Nat.add_mul, Nat.one_mul] at this
            exact this
          have hyp : y * 128 ^ i < 128 * 128 ^ i := Nat.mul_lt_mul_of_pos_right hy (Nat.pow_pos (by omega))
          omega
        · have e1 : k - i = (k - (i + 1)) + 1 := by omega
          rw [e1, List.take_succ_cons, ht, uintL_big (n := n * 128 + y) (by omega)]
          congr 1
          · congr 1; omega
          · congr 1; omega
      · rw [if_neg h128] at h
        by_cases hbad : (0 < i ∧ x = 0) ∨ (i = 9 ∧ 1 < x)
        · rw [if_pos hbad] at h; simp only [Prod.mk.injEq] at h; omega
        · rw [if_neg hbad] at h
          simp only [Prod.mk.injEq] at h
          obtain ⟨rfl, rfl⟩ := h
          obtain ⟨y, rfl⟩ : ∃ y : Nat, x = (y : Int) := ⟨x.toNat, by omega⟩
          refine ⟨y, by simp, fun hi => ?_, ?_, by omega, by simp only [List.length_cons]; omega, ?_⟩
          · rcases Nat.eq_zero_or_pos y with h0 | h0
            · exact absurd (.inl ⟨hi, by omega⟩) hbad
            · exact h0
          · by_cases hi9 : i = 9
            · subst hi9
              have : y ≤ 1 := by
                rcases Nat.lt_or_ge 1 y with h1 | h1
                · exact absurd (.inr ⟨rfl, by omega⟩) hbad
                · exact h1
              have := Nat.mul_le_mul_right (128 ^ 9) this
              omega
            · have h8 : (128 : Nat) ^ i ≤ 128 ^ 8 := Nat.pow_le_pow_right (by omega) (by omega)
              have h88 : (128 : Nat) ^ 8 = 72057594037927936 := by decide
              have := Nat.mul_le_mul (show y ≤ 127 by omega) h8
              omega
          · rw [show i + 1 - i = 1 by omega, uintL_small (by omega)]
            simp
theorem getL_some {b : List Int} {v k : Nat} (hb : ∀ x ∈ b, 0 ≤ x ∧ x ≤ 255) (h : getL b = (v, k)) (hk : k ≠ 0) : v < 2 ^ 64 ∧ 1 ≤ k ∧ k ≤ b.length ∧ b.take k = uintL v := by
  obtain ⟨n, h1, _, h3, h4, h5, h6⟩ := get_some b 0 0 v k hb h hk
  simp at h1 h3 h5 h6
  subst h1
  exact ⟨h3, by omega, by omega, h6⟩

/-! How long a number is. -/
theorem uintL_pos (n : Nat) : 1 ≤ (uintL n).length := by
  by_cases h : n < 128
  · rw [uintL_small h]; simp
  · rw [uintL_big h]; simp
theorem uintL_one (n : Nat) : (uintL n).length = 1 ↔ n < 128 := by
  by_cases h : n < 128
  · rw [uintL_small h]; simp [h]
  · rw [uintL_big h]
    have := uintL_pos (n / 128)
    simp only [List.length_cons]
    omega
theorem uintL_mono : ∀ (a b : Nat), a ≤ b → (uintL a).length ≤ (uintL b).length := by
  intro a
  induction a using Nat.strongRecOn with
  | ind a ih =>
    intro b hab
    by_cases h : a < 128
    · rw [uintL_small h]; exact uintL_pos b
    · rw [uintL_big h, uintL_big (n := b) (by omega)]
      have := ih (a / 128) (by omega) (b / 128) (Nat.div_le_div_right hab)
      simp only [List.length_cons]
      omega
theorem uintL_len {n : Nat} (h : n < 2 ^ 64) : (uintL n).length ≤ 10 := by
  have e : (uintL (2 ^ 64 - 1)).length = 10 := by
    simp only [show (2 : Nat) ^ 64 - 1 = 18446744073709551615 by decide]
    rw [uintL_big (by decide), uintL_big (by decide), uintL_big (by decide), uintL_big (by decide), uintL_big (by decide), uintL_big (by decide), uintL_big (by decide), uintL_big (by decide), uintL_big (by decide), uintL_small (by decide)]
    rfl
  have := uintL_mono n (2 ^ 64 - 1) (by omega)
  omega
theorem uintL_inj {a b : Nat} (ha : a < 2 ^ 64) (hb : b < 2 ^ 64) (h : uintL a = uintL b) : a = b := by
  have h1 := getL_put a [] ha
  have h2 := getL_put b [] hb
  rw [h, h2] at h1
  simpa using h1.symm
theorem uintL_bytes : ∀ (n : Nat), ∀ x ∈ uintL n, 0 ≤ x ∧ x ≤ 255 := by
  intro n
  induction n using Nat.strongRecOn with
  | ind n ih =>
    by_cases h : n < 128
    · rw [uintL_small h]; intro x hx; simp at hx; omega
    · rw [uintL_big h]
      intro x hx
      rcases List.mem_cons.1 hx with rfl | hx
      · omega
      · exact ih (n / 128) (by omega) x hx
/-- One number behind another one: read one by one. -/
theorem uintL_cut {a b : Nat} {m m' : List Int} (ha : a < 2 ^ 64) (hb : b < 2 ^ 64) (h : uintL a ++ m = uintL b ++ m') : a = b ∧ m = m' := by
  have h1 := getL_put a m ha
  have h2 := getL_put b m' hb
  rw [h, h2] at h1
  simp only [Prod.mk.injEq] at h1
  obtain ⟨rfl, _⟩ := h1
  exact ⟨rfl, List.append_cancel_left h⟩

/-! Runs of alike things. -/
section
variable {C : Type} [DecidableEq C]
def runsOf : List C → List (Nat × C)
  | [] => []
  | c :: l => match runsOf l with
    | [] => [(1, c)]
    | (n, d) :: rs => if c = d then (n + 1, d) :: rs else (1, c) :: (n, d) :: rs
def unrun (rs : List (Nat × C)) : List C := rs.flatMap fun x => List.replicate x.1 x.2
/-- Each has one at least, neighbours are unlike. -/
def Alt : List (Nat × C) → Prop
  | [] => True
  | [x] => 1 ≤ x.1
  | x :: y :: rs => 1 ≤ x.1 ∧ x.2 ≠ y.2 ∧ Alt (y :: rs)
theorem runsOf_alt (l : List C) : Alt (runsOf l) := by
  induction l with
  | nil => trivial
  | cons c l ih =>
    unfold runsOf
    cases h : runsOf l with
    | nil => simp [Alt]
    | cons x rs =>
      obtain ⟨n, d⟩ := x
      rw [h] at ih
      simp only
      by_cases e : c = d
      · rw [if_pos e]
        cases rs with
        | nil => simp [Alt]
        | cons y rs => exact ⟨by simp, ih.2.1, ih.2.2⟩
      · rw [if_neg e]
        exact ⟨by simp, e, ih⟩
theorem unrun_runs (l : List C) : unrun (runsOf l) = l := by
  induction l with
  | nil => rfl
  | cons c l ih =>
    unfold runsOf
    cases h : runsOf l with
    | nil =>
      rw [h] at ih
      have : l = [] := by rw [← ih]; rfl
      subst this
      rfl
    | cons x rs =>
      obtain ⟨n, d⟩ := x
      rw [h] at ih
      simp only
      by_cases e : c = d
      · rw [if_pos e]
        subst e
        rw [← ih]
        simp [unrun, List.replicate_succ]
      · rw [if_neg e]
        rw [← ih]
        simp [unrun]
theorem runs_cons_same (c : C) (n : Nat) (l : List C) (rs : List (Nat × C)) (h : runsOf l = (n, c) :: rs) : runsOf (c :: l) = (n + 1, c) :: rs := by
  conv => lhs; unfold runsOf
  rw [h]
  simp
theorem runs_replicate (c : C) (n : Nat) (l : List C) (rs : List (Nat × C)) (h : runsOf l = rs) (hne : ∀ x ys, rs = x :: ys → c ≠ x.2) : runsOf (List.replicate (n + 1) c ++ l) = (n + 1, c) :: rs := by
  induction n with
  | zero =>
    simp only [Nat.zero_add, List.replicate_one, List.cons_append, List.nil_append]
    conv => lhs; unfold runsOf
    rw [h]
    cases rs with
    | nil => rfl
    | cons x ys =>
      obtain ⟨m, d⟩ := x
      simp only
      rw [if_neg (hne _ _ rfl)]
  | succ n ih =>
    rw [List.replicate_succ, List.cons_append]
    exact runs_cons_same c (n + 1) _ rs ih
theorem runs_unrun : ∀ (rs : List (Nat × C)), Alt rs → runsOf (unrun rs) = rs
  | [], _ => rfl
  | [x], h => by
    obtain ⟨n, c⟩ := x
    obtain ⟨m, rfl⟩ : ∃ m, n = m + 1 := ⟨n - 1, by have : 1 ≤ n := h; omega⟩
    have := runs_replicate c m [] [] rfl (fun x ys e => by cases e)
    simpa [unrun] using this
  | x :: y :: rs, h => by
    obtain ⟨n, c⟩ := x
    obtain ⟨h1, h2, h3⟩ := h
    obtain ⟨m, rfl⟩ : ∃ m, n = m + 1 := ⟨n - 1, by have : 1 ≤ n := h1; omega⟩
    have ih := runs_unrun (y :: rs) h3
    have := runs_replicate c m (unrun (y :: rs)) (y :: rs) ih (fun x ys e => by injection e with e1 e2; rw [← e1]; exact h2)
    have e : unrun ((m + 1, c) :: y :: rs) = List.replicate (m + 1) c ++ unrun (y :: rs) := by simp [unrun]
    rw [e]
    exact this
end
end Go.Proofs.YtalhlgiklochdaaDoor
namespace Go.Proofs.YtalhlgiklochdaaDoor

abbrev Cel := Int × Int × Int
/-- A cell whose numbers are not too great for a row. -/
def Small (c : Cel) : Prop := (0 ≤ c.1 ∧ c.1 ≤ 1114111) ∧ (0 ≤ c.2.1 ∧ c.2.1 ≤ 2) ∧ (0 ≤ c.2.2 ∧ c.2.2 ≤ 255)
def runBytes (x : Nat × Cel) : List Int := uintL x.1 ++ (uintL x.2.1.toNat ++ (uintL x.2.2.1.toNat ++ uintL x.2.2.2.toNat))
def headOf (wrap : Bool) (n : Nat) : Nat := 2 * n + if wrap then 1 else 0
def putL (wrap : Bool) (l : List Cel) : List Int := uintL (headOf wrap (runsOf l).length) ++ (runsOf l).flatMap runBytes

/-- The next number, so great at the most; what is left. -/
def numL (most : Nat) (b : List Int) : Option (Nat × List Int) := if (getL b).2 = 0 ∨ most < (getL b).1 then none else some ((getL b).1, b.drop (getL b).2)
/-- The next run, of so many at the most. -/
def runL (room : Nat) (b : List Int) : Option ((Nat × Cel) × List Int) :=
  (numL room b).bind fun x => if x.1 = 0 then none else (numL 1114111 x.2).bind fun r => (numL 2 r.2).bind fun w => (numL 255 w.2).bind fun a => some ((x.1, ((r.1 : Int), (w.1 : Int), (a.1 : Int))), a.2)
/-- So many runs behind what there is. -/
def runsL : Nat → List Cel → List Int → Option (List Cel × List Int)
  | 0, l, b => some (l, b)
  | k + 1, l, b => (runL (300 - l.length) b).bind fun x => if l.getLast? = some x.1.2 then none else runsL k (l ++ List.replicate x.1.1 x.1.2) x.2
/-- The row at the beginning: whether it wraps, its cells, how many bytes. -/
def getR (may : List Cel → Bool) (b : List Int) : Option (Bool × List Cel × Nat) :=
  (numL 601 b).bind fun h => (runsL (h.1 / 2) [] h.2).bind fun x => if may x.1 then some (h.1 % 2 == 1, x.1, b.length - x.2.length) else none

theorem numL_put {n most : Nat} (m : List Int) (h : n ≤ most) (hm : most < 2 ^ 64) : numL most (uintL n ++ m) = some (n, m) := by
  have e := getL_put n m (by omega)
  have hp := uintL_pos n
  unfold numL
  rw [e]
  simp only
  rw [if_neg (by omega)]
  simp
theorem runL_put {room n : Nat} {c : Cel} (m : List Int) (hc : Small c) (h1 : 1 ≤ n) (hn : n ≤ room) (hr : room ≤ 300) : runL room (runBytes (n, c) ++ m) = some ((n, c), m) := by
  obtain ⟨r, w, a⟩ := c
  obtain ⟨⟨r0, r1⟩, ⟨w0, w1⟩, a0, a1⟩ := hc
  simp only at r0 r1 w0 w1 a0 a1
  obtain ⟨r, rfl⟩ := Int.eq_ofNat_of_zero_le r0
  obtain ⟨w, rfl⟩ := Int.eq_ofNat_of_zero_le w0
  obtain ⟨a, rfl⟩ := Int.eq_ofNat_of_zero_le a0
  unfold runL runBytes
  simp only [List.append_assoc, Int.toNat_natCast]
  rw [numL_put _ hn (by omega)]
  simp only [Option.bind_some]
  rw [if_neg (by omega), numL_put _ (by omega) (by omega)]
  simp only [Option.bind_some]
  rw [numL_put _ (by omega) (by omega)]
  simp only [Option.bind_some]
  rw [numL_put _ (by omega) (by omega)]
  rfl
theorem alt_tail {x : Nat × Cel} {rs : List (Nat × Cel)} (h : Alt (x :: rs)) : 1 ≤ x.1 ∧ Alt rs ∧ ∀ y ys, rs = y :: ys → x.2 ≠ y.2 := by
  cases rs with
  | nil => exact ⟨h, trivial, fun y ys e => by cases e⟩
  | cons y ys => exact ⟨h.1, h.2.2, fun z zs e => by injection e with e1 e2; rw [← e1]; exact h.2.1⟩
theorem unrun_cons (x : Nat × Cel) (rs : List (Nat × Cel)) : unrun (x :: rs) = List.replicate x.1 x.2 ++ unrun rs := by simp [unrun]
theorem getLast_replicate {l : List Cel} {n : Nat} {c : Cel} (h : 1 ≤ n) : (l ++ List.replicate n c).getLast? = some c := by
  obtain ⟨m, rfl⟩ : ∃ m, n = m + 1 := ⟨n - 1, by omega⟩
  rw [List.replicate_succ', ← List.append_assoc]
  simp
theorem runsL_put : ∀ (rs : List (Nat × Cel)) (l : List Cel) (m : List Int), Alt rs → (∀ x ∈ rs, Small x.2) → l.length + (unrun rs).length ≤ 300 → (∀ x xs, rs = x :: xs → l.getLast? ≠ some x.2) →
    runsL rs.length l (rs.flatMap runBytes ++ m) = some (l ++ unrun rs, m)
  | [], l, m, _, _, _, _ => by simp [runsL, unrun]
  | x :: rs, l, m, ha, hs, hl, hlast => by
    obtain ⟨h1, h2, h3⟩ := alt_tail ha
    rw [unrun_cons, List.length_append, List.length_replicate] at hl
    simp only [List.length_cons, runsL, List.flatMap_cons, List.append_assoc]
    rw [show runBytes x = runBytes (x.1, x.2) from rfl, runL_put _ (hs x (by simp)) h1 (by omega) (by omega)]
    simp only [Option.bind_some]
    rw [if_neg (hlast x rs rfl), runsL_put rs (l ++ List.replicate x.1 x.2) m h2 (fun y hy => hs y (by simp [hy])) (by rw [List.length_append, List.length_replicate]; omega) (fun y ys e => by
      rw [getLast_replicate h1]
      intro k
      exact h3 y ys e (by injection k))]
    rw [unrun_cons, List.append_assoc]
theorem mem_unrun {rs : List (Nat × Cel)} (h : Alt rs) {x : Nat × Cel} (hx : x ∈ rs) : x.2 ∈ unrun rs := by
  induction rs with
  | nil => cases hx
  | cons y rs ih =>
    obtain ⟨h1, h2, _⟩ := alt_tail h
    rw [unrun_cons, List.mem_append]
    rcases List.mem_cons.1 hx with rfl | hx
    · left; rw [List.mem_replicate]; exact ⟨by omega, rfl⟩
    · right; exact ih h2 hx
theorem runs_length (l : List Cel) : (runsOf l).length ≤ l.length := by
  have key : ∀ rs : List (Nat × Cel), Alt rs → rs.length ≤ (unrun rs).length := by
    intro rs
    induction rs with
    | nil => intro _; simp [unrun]
    | cons x rs ih =>
      intro h
      obtain ⟨h1, h2, _⟩ := alt_tail h
      have := ih h2
      rw [unrun_cons, List.length_append, List.length_replicate, List.length_cons]
      omega
  have := key _ (runsOf_alt l)
  rw [unrun_runs] at this
  exact this
theorem head_two (wrap : Bool) (n : Nat) : headOf wrap n / 2 = n ∧ (headOf wrap n % 2 == 1) = wrap := by
  unfold headOf
  cases wrap
  · simp
  · simp; omega
/-- What a row has become is read back, whatever stands behind it. -/
theorem getR_put {may : List Cel → Bool} {wrap : Bool} {l : List Cel} (m : List Int) (hm : may l = true) (hs : ∀ c ∈ l, Small c) (hl : l.length ≤ 300) : getR may (putL wrap l ++ m) = some (wrap, l, (putL wrap l).length) := by
  have hrl := runs_length l
  have ha := runsOf_alt l
  have hu := unrun_runs l
  have hh : headOf wrap (runsOf l).length ≤ 601 := by unfold headOf; split <;> omega
  unfold getR putL
  rw [List.append_assoc, numL_put _ hh (by omega)]
  simp only [Option.bind_some]
  rw [(head_two wrap _).1, (head_two wrap _).2, runsL_put (runsOf l) [] m ha (fun x hx => hs _ (by rw [← hu]; exact mem_unrun ha hx)) (by rw [hu]; simpa using hl) (fun x xs _ => by simp)]
  simp only [Option.bind_some, List.nil_append, hu]
  rw [if_pos hm]
  simp only [Option.some.injEq, Prod.mk.injEq, true_and, List.length_append]
  omega

theorem numL_some {most : Nat} {b m : List Int} {n : Nat} (hb : ∀ x ∈ b, 0 ≤ x ∧ x ≤ 255) (h : numL most b = some (n, m)) : n ≤ most ∧ b = uintL n ++ m := by
  unfold numL at h
  by_cases hc : (getL b).2 = 0 ∨ most < (getL b).1
  · rw [if_pos hc] at h; cases h
  · rw [if_neg hc] at h
    simp only [Option.some.injEq, Prod.mk.injEq] at h
    obtain ⟨rfl, rfl⟩ := h
    obtain ⟨_, _, _, h4⟩ := getL_some hb (show getL b = ((getL b).1, (getL b).2) from rfl) (by omega)
    refine ⟨by omega, ?_⟩
    rw [← h4, List.take_append_drop]
theorem bytes_tail {a m : List Int} (h : ∀ x ∈ a ++ m, 0 ≤ x ∧ x ≤ 255) : ∀ x ∈ m, 0 ≤ x ∧ x ≤ 255 := fun x hx => h x (by simp [hx])
theorem runL_some {room : Nat} {b m : List Int} {x : Nat × Cel} (hb : ∀ y ∈ b, 0 ≤ y ∧ y ≤ 255) (h : runL room b = some (x, m)) : 1 ≤ x.1 ∧ x.1 ≤ room ∧ Small x.2 ∧ b = runBytes x ++ m := by
  unfold runL at h
  rw [Option.bind_eq_some_iff] at h
  obtain ⟨⟨n, b1⟩, h1, h⟩ := h
  obtain ⟨n1, rfl⟩ := numL_some hb h1
  simp only at h
  by_cases h0 : n = 0
  · rw [if_pos h0] at h; cases h
  · rw [if_neg h0, Option.bind_eq_some_iff] at h
    obtain ⟨⟨r, b2⟩, h2, h⟩ := h
    obtain ⟨r1, rfl⟩ := numL_some (bytes_tail hb) h2
    simp only at h
    rw [Option.bind_eq_some_iff] at h
    obtain ⟨⟨w, b3⟩, h3, h⟩ := h
    obtain ⟨w1, rfl⟩ := numL_some (bytes_tail (bytes_tail hb)) h3
    simp only at h
    rw [Option.bind_eq_some_iff] at h
    obtain ⟨⟨a, b4⟩, h4, h⟩ := h
    obtain ⟨a1, rfl⟩ := numL_some (bytes_tail (bytes_tail (bytes_tail hb))) h4
    simp only [Option.some.injEq, Prod.mk.injEq] at h
    obtain ⟨rfl, rfl⟩ := h
    refine ⟨by simp only; omega, n1, ⟨⟨by simp only; omega, by simp only; omega⟩, ⟨by simp only; omega, by simp only; omega⟩, by simp only; omega, by simp only; omega⟩, ?_⟩
    simp [runBytes]
theorem runsL_some : ∀ (k : Nat) (l : List Cel) (b : List Int) (l' : List Cel) (m : List Int), (∀ y ∈ b, 0 ≤ y ∧ y ≤ 255) → runsL k l b = some (l', m) →
    ∃ rs : List (Nat × Cel), rs.length = k ∧ Alt rs ∧ (∀ x ∈ rs, Small x.2) ∧ (∀ x xs, rs = x :: xs → l.getLast? ≠ some x.2) ∧ l' = l ++ unrun rs ∧ b = rs.flatMap runBytes ++ m
  | 0, l, b, l', m, _, h => by
    simp only [runsL, Option.some.injEq, Prod.mk.injEq] at h
    obtain ⟨rfl, rfl⟩ := h
    exact ⟨[], rfl, trivial, by simp, (fun x xs e => by cases e), by simp [unrun], by simp⟩
  | k + 1, l, b, l', m, hb, h => by
    simp only [runsL] at h
    rw [Option.bind_eq_some_iff] at h
    obtain ⟨⟨x, b1⟩, h1, h⟩ := h
    obtain ⟨x1, x2, x3, rfl⟩ := runL_some hb h1
    simp only at h
    by_cases hlast : l.getLast? = some x.2
    · rw [if_pos hlast] at h; cases h
    · rw [if_neg hlast] at h
      obtain ⟨rs, r1, r2, r3, r4, r5, r6⟩ := runsL_some k _ _ l' m (bytes_tail hb) h
      refine ⟨x :: rs, by simp [r1], ?_, ?_, ?_, ?_, ?_⟩
      · cases rs with
        | nil => exact x1
        | cons y ys =>
          refine ⟨x1, fun e => ?_, r2⟩
          have := r4 y ys rfl
          rw [getLast_replicate x1, e] at this
          exact this rfl
      · intro y hy
        rcases List.mem_cons.1 hy with rfl | hy
        · exact x3
        · exact r3 y hy
      · intro y ys e
        injection e with e1 e2
        rw [← e1]
        exact hlast
      · rw [r5, unrun_cons, List.append_assoc]
      · rw [r6]; simp
/-- What is read is a row that has become just these bytes. -/
theorem getR_some {may : List Cel → Bool} {b : List Int} {wrap : Bool} {l : List Cel} {n : Nat} (hb : ∀ y ∈ b, 0 ≤ y ∧ y ≤ 255) (h : getR may b = some (wrap, l, n)) : may l = true ∧ n ≤ b.length ∧ n = (putL wrap l).length ∧ b.take n = putL wrap l := by
  unfold getR at h
  rw [Option.bind_eq_some_iff] at h
  obtain ⟨⟨hd, b1⟩, h1, h⟩ := h
  obtain ⟨hd1, rfl⟩ := numL_some hb h1
  simp only at h
  rw [Option.bind_eq_some_iff] at h
  obtain ⟨⟨l', m⟩, h2, h⟩ := h
  obtain ⟨rs, r1, r2, r3, r4, r5, r6⟩ := runsL_some _ _ _ _ _ (bytes_tail hb) h2
  simp only at h
  split at h
  · rename_i hm
    simp only [Option.some.injEq, Prod.mk.injEq] at h
    obtain ⟨e1, rfl, e2⟩ := h
    have hl : l' = unrun rs := by rw [r5]; simp
    have hr : runsOf l' = rs := by rw [hl]; exact runs_unrun rs r2
    have hh : headOf wrap rs.length = hd := by
      unfold headOf
      rw [r1, ← e1]
      have := Nat.mod_two_eq_zero_or_one hd
      rcases this with e | e <;> simp [e] <;> omega
    have hp : putL wrap l' = uintL hd ++ rs.flatMap runBytes := by unfold putL; rw [hr, hh]
    have hn : n = (putL wrap l').length := by
      rw [← e2, hp, r6]
      simp only [List.length_append]
      omega
    refine ⟨hm, by rw [← e2]; omega, hn, ?_⟩
    rw [hn, hp, r6, ← List.append_assoc, List.take_left]
  · cases h
/-- Rows one behind the other are cut at one place alone. -/
theorem putL_inj {wrap wrap' : Bool} {l l' : List Cel} (hs : ∀ c ∈ l, Small c) (hl : l.length ≤ 300) (hs' : ∀ c ∈ l', Small c) (hl' : l'.length ≤ 300) (h : putL wrap l = putL wrap' l') : wrap = wrap' ∧ l = l' := by
  have e1 := getR_put (may := fun _ => true) (wrap := wrap) [] rfl hs hl
  have e2 := getR_put (may := fun _ => true) (wrap := wrap') [] rfl hs' hl'
  rw [h, e2] at e1
  simp only [Option.some.injEq, Prod.mk.injEq] at e1
  exact ⟨e1.1.symm, e1.2.1.symm⟩

/-! Which rows may be. -/
def mayB (c : Cel) : Bool := decide (0 ≤ c.2.2) && decide (c.2.2 ≤ 255) && (c == (0, 1, 0) || (c.2.1 == 0 && c.1 == 0) || (decide (0 < c.2.1) && c.2.1 == wof c.1))
def mayGo : Cel → List Cel → Bool
  | p, [] => !(p.2.1 == 2)
  | p, c :: l => mayB c && ((p.2.1 == 2) == (c.2.1 == 0)) && (!(c.2.1 == 0) || c.2.2 == p.2.2) && mayGo c l
def mayL (l : List Cel) : Bool := decide (l.length ≤ 300) && mayGo (32, 1, 0) l
theorem wof_small {r : Int} (h1 : r ≤ 2147483647) (h : 0 < wof r) : 0 ≤ r ∧ r ≤ 1114111 := by
  have h0 : ¬ r ≤ 31 := fun e => by unfold wof at h; rw [if_pos e] at h; omega
  refine ⟨by omega, ?_⟩
  by_cases hr : 1114111 < r
  · have e : wof r = 0 := wof_hit r 20 (by omega) (by show (1114112 : Int) ≤ r; omega) (by show r ≤ (2147483647 : Int); omega)
    omega
  · omega
theorem mayB_small {c : Cel} (hr : c.1 ≤ 2147483647) (h : mayB c = true) : Small c := by
  obtain ⟨r, w, a⟩ := c
  simp only [mayB, Bool.and_eq_true, Bool.or_eq_true, decide_eq_true_eq, beq_iff_eq, Prod.mk.injEq] at h hr
  obtain ⟨⟨a0, a1⟩, h⟩ := h
  have hw := wof_range r
  rcases h with (⟨rfl, rfl, rfl⟩ | ⟨rfl, rfl⟩) | ⟨hp, e⟩
  · exact ⟨⟨by simp, by simp⟩, ⟨by simp, by simp⟩, by simp, by simp⟩
  · exact ⟨⟨by simp, by simp⟩, ⟨by simp, by simp⟩, a0, a1⟩
  · have := wof_small hr (show 0 < wof r by omega)
    exact ⟨this, ⟨by simp only; omega, by simp only; omega⟩, a0, a1⟩
theorem mayGo_each : ∀ (l : List Cel) (p : Cel), mayGo p l = true → ∀ c ∈ l, mayB c = true
  | [], _, _, c, hc => by cases hc
  | d :: l, p, h, c, hc => by
    simp only [mayGo, Bool.and_eq_true] at h
    rcases List.mem_cons.1 hc with rfl | hc
    · exact h.1.1.1
    · exact mayGo_each l d h.2 c hc
theorem mayL_small {l : List Cel} (hr : ∀ c ∈ l, c.1 ≤ 2147483647) (h : mayL l = true) : l.length ≤ 300 ∧ ∀ c ∈ l, Small c := by
  simp only [mayL, Bool.and_eq_true, decide_eq_true_eq] at h
  exact ⟨h.1, fun c hc => mayB_small (hr c hc) (mayGo_each l _ h.2 c hc)⟩
end Go.Proofs.YtalhlgiklochdaaDoor
namespace Go.Proofs.YtalhlgiklochdaaDoor

section
variable {C : Type}
theorem alt_snoc : ∀ (rs : List (Nat × C)) (x : Nat × C), Alt rs → 1 ≤ x.1 → (∀ y, rs.getLast? = some y → y.2 ≠ x.2) → Alt (rs ++ [x])
  | [], _, _, h, _ => h
  | [y], _, h0, h, hn => ⟨h0, hn y rfl, h⟩
  | _ :: z :: rs, x, h0, h, hn => ⟨h0.1, h0.2.1, alt_snoc (z :: rs) x h0.2.2 h (fun u hu => hn u (by simpa using hu))⟩
theorem alt_bump : ∀ (rs : List (Nat × C)) (n : Nat) (c : C), Alt (rs ++ [(n, c)]) → Alt (rs ++ [(n + 1, c)])
  | [], _, _, _ => by simp [Alt]
  | [_], n, c, h => ⟨h.1, h.2.1, by simp [Alt]⟩
  | _ :: z :: rs, n, c, h => ⟨h.1, h.2.1, alt_bump (z :: rs) n c h.2.2⟩
theorem alt_last : ∀ (rs : List (Nat × C)) (x : Nat × C), Alt (rs ++ [x]) → 1 ≤ x.1
  | [], _, h => h
  | [_], _, h => h.2.2
  | _ :: z :: rs, x, h => alt_last (z :: rs) x h.2.2
theorem unrun_snoc (rs : List (Nat × C)) (x : Nat × C) : unrun (rs ++ [x]) = unrun rs ++ List.replicate x.1 x.2 := by simp [unrun]
theorem unrun_last {rs : List (Nat × C)} {x : Nat × C} (h : Alt (rs ++ [x])) : (unrun (rs ++ [x])).getLast? = some x.2 := by
  have h1 := alt_last rs x h
  obtain ⟨m, hm⟩ : ∃ m, x.1 = m + 1 := ⟨x.1 - 1, by omega⟩
  rw [unrun_snoc, hm, List.replicate_succ', ← List.append_assoc]
  simp
variable [DecidableEq C]
/-- One more like the last: its run is longer by one. -/
theorem runs_same {l : List C} {c : C} (h : l.getLast? = some c) : ∃ rs n, runsOf l = rs ++ [(n, c)] ∧ runsOf (l ++ [c]) = rs ++ [(n + 1, c)] := by
  have ha := runsOf_alt l
  have hu := unrun_runs l
  rcases List.eq_nil_or_concat (runsOf l) with e | ⟨rs, x, e⟩
  · rw [e] at hu
    have : l = [] := by rw [← hu]; rfl
    subst this
    simp at h
  · rw [List.concat_eq_append] at e
    rw [e] at ha hu
    have hx := unrun_last ha
    rw [hu, h] at hx
    obtain ⟨n, d⟩ := x
    simp only [Option.some.injEq] at hx
    subst hx
    refine ⟨rs, n, e, ?_⟩
    have h2 := runs_unrun _ (alt_bump rs n c ha)
    have h3 : unrun (rs ++ [(n + 1, c)]) = l ++ [c] := by
      rw [← hu, unrun_snoc, unrun_snoc, List.append_assoc]
      simp only
      rw [List.replicate_succ']
    rw [h3] at h2
    exact h2
/-- One more that is not like the last: a run of its own. -/
theorem runs_other {l : List C} {c : C} (h : l.getLast? ≠ some c) : runsOf (l ++ [c]) = runsOf l ++ [(1, c)] := by
  have ha := runsOf_alt l
  have hu := unrun_runs l
  have h1 : Alt (runsOf l ++ [(1, c)]) := by
    refine alt_snoc _ _ ha (Nat.le_refl _) (fun y hy e => ?_)
    rcases List.eq_nil_or_concat (runsOf l) with e' | ⟨rs, x, e'⟩
    · rw [e'] at hy; cases hy
    · rw [List.concat_eq_append] at e'
      rw [e'] at hy ha hu
      have hx := unrun_last ha
      rw [hu] at hx
      simp at hy
      subst hy
      exact h (by rw [hx, e])
  have h2 := runs_unrun _ h1
  have h3 : unrun (runsOf l ++ [(1, c)]) = l ++ [c] := by rw [unrun_snoc, hu]; rfl
  rw [h3] at h2
  exact h2
theorem runs_pos {l : List C} {x : Nat × C} (h : x ∈ runsOf l) : 1 ≤ x.1 := by
  have key : ∀ rs : List (Nat × C), Alt rs → ∀ x ∈ rs, 1 ≤ x.1 := by
    intro rs
    induction rs with
    | nil => intro _ x hx; cases hx
    | cons y rs ih =>
      intro ha x hx
      rcases List.mem_cons.1 hx with rfl | hx
      · cases rs with
        | nil => exact ha
        | cons z zs => exact ha.1
      · cases rs with
        | nil => cases hx
        | cons z zs => exact ih ha.2.2 x hx
  exact key _ (runsOf_alt l) x h
end
end Go.Proofs.YtalhlgiklochdaaDoor
