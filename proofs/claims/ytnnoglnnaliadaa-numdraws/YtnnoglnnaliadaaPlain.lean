/- Plain facts on sums, products and draws that the walks of this seat use; no Go in sight, and no condition but those each theorem names. -/
import Derived.Laws.BitsAllLaws
import Derived.RowKit
namespace Go.Proofs.Ytnnoglnnaliadaa
open Go.RowKit

def Fit (x : Int) : Prop := -9223372036854775808 ≤ x ∧ x ≤ 9223372036854775807
def fitB (x : Int) : Bool := decide (-9223372036854775808 ≤ x ∧ x ≤ 9223372036854775807)
def addOk (a b : Int) : Bool := fitB (a + b)
def addV (a b : Int) : Int := if fitB (a + b) then a + b else 0
def mulOk (a b : Int) : Bool := fitB (a * b)
def mulV (a b : Int) : Int := if fitB (a * b) then a * b else 0

theorem fitB_true {x : Int} (h : Fit x) : fitB x = true := by unfold fitB; exact decide_eq_true h
theorem fitB_false {x : Int} (h : ¬ Fit x) : fitB x = false := by unfold fitB; exact decide_eq_false h
theorem fit_of {x : Int} (h : fitB x = true) : Fit x := by unfold fitB at h; unfold Fit; exact of_decide_eq_true h
theorem nofit_of {x : Int} (h : fitB x = false) : ¬ Fit x := by unfold fitB at h; unfold Fit; exact of_decide_eq_false h

theorem wrap_toNat (v : BitVec 64) : IntKind.i64.wrap (v.toNat : Int) = v.toInt := by
  rw [BitVec.toInt_eq_toNat_cond]
  have := v.isLt
  simp [IntKind.wrap, IntKind.bits, IntKind.signed]
  split <;> split <;> omega

theorem ofInt_toInt {a : Int} (h : Fit a) : (BitVec.ofInt 64 a).toInt = a := by
  unfold Fit at h
  rw [BitVec.toInt_ofInt, Int.bmod_def]
  split <;> omega

theorem msb_ofInt {a : Int} (h : Fit a) : (BitVec.ofInt 64 a).msb = decide (a < 0) := by
  rw [BitVec.msb_eq_toInt, ofInt_toInt h]

theorem xor_i64 (a b : Int) : bits .xor .i64 a b = (BitVec.ofInt 64 a ^^^ BitVec.ofInt 64 b).toInt := wrap_toNat _
theorem and_i64 (a b : Int) : bits .and .i64 a b = (BitVec.ofInt 64 a &&& BitVec.ofInt 64 b).toInt := wrap_toNat _

theorem add_sign {a b s : Int} (ha : Fit a) (hb : Fit b) (hs : Fit s) :
    decide (bits .and .i64 (bits .xor .i64 a s) (bits .xor .i64 b s) < 0) = ((decide (a < 0) ^^ decide (s < 0)) && (decide (b < 0) ^^ decide (s < 0))) := by
  rw [and_i64, ← BitVec.msb_eq_toInt, BitVec.msb_and, xor_i64, xor_i64, BitVec.ofInt_toInt, BitVec.ofInt_toInt, BitVec.msb_xor, BitVec.msb_xor, msb_ofInt ha, msb_ofInt hb, msb_ofInt hs]

theorem fit_wrap (x : Int) : Fit (wrap64 x) := by unfold Fit wrap64; omega
theorem wrap_fit {x : Int} (h : Fit x) : wrap64 x = x := by unfold Fit at h; unfold wrap64; omega

theorem add_neg {a b : Int} (ha : Fit a) (hb : Fit b)
    (h : bits .and .i64 (bits .xor .i64 a (wrap64 (a + b))) (bits .xor .i64 b (wrap64 (a + b))) < 0) : fitB (a + b) = false := by
  have h' := add_sign ha hb (fit_wrap (a + b))
  rw [decide_eq_true h] at h'
  apply fitB_false
  intro hf
  rw [wrap_fit hf] at h'
  simp only [Bool.true_eq, Bool.and_eq_true, bne_iff_ne, ne_eq, decide_eq_decide] at h'
  omega
theorem add_pos {a b : Int} (ha : Fit a) (hb : Fit b)
    (h : 0 ≤ bits .and .i64 (bits .xor .i64 a (wrap64 (a + b))) (bits .xor .i64 b (wrap64 (a + b)))) : fitB (a + b) = true := by
  have h' := add_sign ha hb (fit_wrap (a + b))
  rw [decide_eq_false (by omega)] at h'
  apply fitB_true
  unfold Fit at *
  have hw : wrap64 (a + b) = (a + b + 9223372036854775808) % 18446744073709551616 - 9223372036854775808 := rfl
  generalize wrap64 (a + b) = s at *
  simp only [Bool.false_eq, Bool.and_eq_false_iff, bne_eq_false_iff_eq, decide_eq_decide] at h'
  omega

/-! ### Products -/
theorem tmod_abs (q b : Int) (hb : b ≠ 0) : -(b.natAbs : Int) < q.tmod b ∧ q.tmod b < b.natAbs := by
  have h := Int.natAbs_tmod q b
  have h2 : q.natAbs % b.natAbs < b.natAbs := Nat.mod_lt _ (by omega)
  omega

theorem mul_back {a b : Int} (ha : Fit a) (hb : Fit b) (h0 : b ≠ 0) (hne : ¬ (a = -9223372036854775808 ∧ b = -1))
    (h : wrap64 ((wrap64 (a * b)).tdiv b) = a) : Fit (a * b) := by
  have hq := fit_wrap (a * b)
  have hw : wrap64 (a * b) = (a * b + 9223372036854775808) % 18446744073709551616 - 9223372036854775808 := rfl
  have hdm := Int.mul_tdiv_add_tmod (wrap64 (a * b)) b
  have hr := tmod_abs (wrap64 (a * b)) b h0
  have hd : ((wrap64 (a * b)).tdiv b).natAbs ≤ (wrap64 (a * b)).natAbs := by rw [Int.natAbs_tdiv]; exact Nat.div_le_self _ _
  generalize wrap64 (a * b) = q at *
  unfold Fit at ha hb hq
  by_cases hm : q.tdiv b = 9223372036854775808
  · exfalso
    have hqe : q = -9223372036854775808 := by omega
    have hb1 : b = -1 := by
      rw [hm, hqe] at hdm
      rw [hqe] at hr
      omega
    apply hne
    rw [hm] at h
    refine ⟨?_, hb1⟩
    rw [← h]; decide
  · have ht : q.tdiv b = a := by
      have : Fit (q.tdiv b) := by unfold Fit; omega
      rw [wrap_fit this] at h; exact h
    rw [ht] at hdm
    have hc : b * a = a * b := Int.mul_comm _ _
    rw [hc] at hdm
    generalize a * b = p at *
    unfold Fit
    omega

theorem mul_forth {a b : Int} (ha : Fit a) (h0 : b ≠ 0) (hf : Fit (a * b)) : wrap64 ((wrap64 (a * b)).tdiv b) = a := by
  rw [wrap_fit hf, Int.mul_tdiv_cancel _ h0, wrap_fit ha]

theorem low_mul : ¬ Fit ((-9223372036854775808) * (-1)) := by unfold Fit; omega

/-! ### Draws -/
def step (x : Nat) : Nat :=
  ((x ^^^ (x * 8192 % 4294967296)) ^^^ ((x ^^^ (x * 8192 % 4294967296)) / 131072)) ^^^
    (((x ^^^ (x * 8192 % 4294967296)) ^^^ ((x ^^^ (x * 8192 % 4294967296)) / 131072)) * 32 % 4294967296)
def draw (x : Nat) : Nat := if x = 0 then 2463534242 else step x
def drawI (x : Int) : Int := (draw x.toNat : Int)

def Lin (f : Nat → Nat) : Prop := ∀ x y, f (x ^^^ y) = f x ^^^ f y
theorem Lin.zero {f : Nat → Nat} (h : Lin f) : f 0 = 0 := by
  have := h 0 0
  rw [Nat.xor_self, Nat.xor_self] at this; exact this
theorem xor_swap (a b c d : Nat) : (a ^^^ b) ^^^ (c ^^^ d) = (a ^^^ c) ^^^ (b ^^^ d) := by
  rw [Nat.xor_assoc, Nat.xor_assoc, ← Nat.xor_assoc b c d, Nat.xor_comm b c, Nat.xor_assoc c b d]
theorem Lin.xor {f g : Nat → Nat} (hf : Lin f) (hg : Lin g) : Lin (fun x => f x ^^^ g x) := by
  intro x y; show f (x ^^^ y) ^^^ g (x ^^^ y) = _; rw [hf, hg, xor_swap]
theorem Lin.comp {f g : Nat → Nat} (hf : Lin f) (hg : Lin g) : Lin (fun x => f (g x)) := by
  intro x y; show f (g (x ^^^ y)) = _; rw [hg, hf]
theorem lin_id : Lin (fun x => x) := fun _ _ => rfl
theorem lin_left (k : Nat) : Lin (fun x => x * 2 ^ k % 2 ^ 32) := by
  intro x y
  show (x ^^^ y) * 2 ^ k % 2 ^ 32 = (x * 2 ^ k % 2 ^ 32) ^^^ (y * 2 ^ k % 2 ^ 32)
  rw [← Nat.shiftLeft_eq, ← Nat.shiftLeft_eq, ← Nat.shiftLeft_eq, Nat.shiftLeft_xor_distrib, Nat.xor_mod_two_pow]
theorem lin_right (k : Nat) : Lin (fun x => x / 2 ^ k) := by
  intro x y
  show (x ^^^ y) / 2 ^ k = (x / 2 ^ k) ^^^ (y / 2 ^ k)
  rw [← Nat.shiftRight_eq_div_pow, ← Nat.shiftRight_eq_div_pow, ← Nat.shiftRight_eq_div_pow, Nat.shiftRight_xor_distrib]
theorem lin_step : Lin step := by
  have h1 : Lin (fun x => x ^^^ (x * 2 ^ 13 % 2 ^ 32)) := lin_id.xor (lin_left 13)
  have h2 : Lin (fun x => x ^^^ (x / 2 ^ 17)) := lin_id.xor (lin_right 17)
  have h3 : Lin (fun x => x ^^^ (x * 2 ^ 5 % 2 ^ 32)) := lin_id.xor (lin_left 5)
  exact h3.comp (h2.comp h1)
theorem step_lt {x : Nat} (h : x < 4294967296) : step x < 4294967296 := by
  have e : (4294967296 : Nat) = 2 ^ 32 := by decide
  have m : ∀ a : Nat, a % 4294967296 < 2 ^ 32 := fun a => by rw [← e]; exact Nat.mod_lt _ (by decide)
  have d : ∀ a : Nat, a < 2 ^ 32 → a / 131072 < 2 ^ 32 := fun a ha => Nat.lt_of_le_of_lt (Nat.div_le_self _ _) ha
  rw [e] at h ⊢
  have h1 := Nat.xor_lt_two_pow h (m (x * 8192))
  have h2 := Nat.xor_lt_two_pow h1 (d _ h1)
  exact Nat.xor_lt_two_pow h2 (m _)

/-- two linear maps that agree at the powers of two agree -/
theorem lin_ext {f g : Nat → Nat} (hf : Lin f) (hg : Lin g) : ∀ n : Nat, (∀ i, i < n → f (2 ^ i) = g (2 ^ i)) → ∀ x, x < 2 ^ n → f x = g x
  | 0, _, x, hx => by
    obtain rfl : x = 0 := by simpa using hx
    rw [hf.zero, hg.zero]
  | n + 1, h, x, hx => by
    by_cases hl : x < 2 ^ n
    · exact lin_ext hf hg n (fun i hi => h i (by omega)) x hl
    · have hx' : x - 2 ^ n < 2 ^ n := by rw [Nat.pow_succ] at hx; omega
      have e : x = 2 ^ n ^^^ (x - 2 ^ n) := by
        have h1 := Nat.two_pow_add_eq_or_of_lt hx' 1
        have h3 : 2 ^ n ^^^ (x - 2 ^ n) = 2 ^ n * 1 ||| (x - 2 ^ n) := by
          apply Nat.eq_of_testBit_eq
          intro i
          rw [Nat.testBit_xor, Nat.testBit_or, Nat.mul_one, Nat.testBit_two_pow]
          by_cases hi : n = i
          · subst hi; rw [Nat.testBit_lt_two_pow hx']; simp
          · simp [hi]
        rw [h3, ← h1]; omega
      rw [e, hf, hg, h n (by omega), lin_ext hf hg n (fun i hi => h i (by omega)) _ hx']

def app : List Nat → Nat → Nat
  | [], _ => 0
  | c :: cs, x => (x % 2 * c) ^^^ app cs (x / 2)
theorem lin_bit (c : Nat) : Lin (fun x => x % 2 * c) := by
  intro x y
  show (x ^^^ y) % 2 * c = _
  have h : (x ^^^ y) % 2 = (x % 2 ^^^ y % 2) := Nat.xor_mod_two_pow (n := 1)
  rw [h]
  rcases Nat.mod_two_eq_zero_or_one x with a | a <;> rcases Nat.mod_two_eq_zero_or_one y with b | b <;> simp [a, b]
theorem lin_app : ∀ L, Lin (app L)
  | [] => fun _ _ => by simp [app]
  | c :: cs => (lin_bit c).xor ((lin_app cs).comp (lin_right 1))
theorem app_map {f : Nat → Nat} (hf : Lin f) : ∀ (L : List Nat) (x : Nat), app (L.map f) x = f (app L x)
  | [], _ => hf.zero.symm
  | c :: cs, x => by
    show (x % 2 * f c) ^^^ app (cs.map f) (x / 2) = f ((x % 2 * c) ^^^ app cs (x / 2))
    rw [hf, app_map hf cs]
    rcases Nat.mod_two_eq_zero_or_one x with a | a <;> simp [a, hf.zero]

def iter (n : Nat) (x : Nat) : Nat := Nat.rec x (fun _ y => step y) n
theorem iter_zero (x : Nat) : iter 0 x = x := rfl
theorem iter_succ (n x : Nat) : iter (n + 1) x = step (iter n x) := rfl
theorem iter_add (m : Nat) : ∀ n x, iter (m + n) x = iter n (iter m x)
  | 0, _ => rfl
  | n + 1, x => by rw [← Nat.add_assoc, iter_succ, iter_add m n x, iter_succ]
theorem iter_lt {x : Nat} (h : x < 4294967296) : ∀ n, iter n x < 4294967296
  | 0 => h
  | n + 1 => step_lt (iter_lt h n)

def cols : List Nat := [270369, 540738, 1081476, 2162952, 4325937, 8651874, 17303748, 34607496, 69214992, 138429984, 276859968, 553719936, 1107439872, 2214879744, 134792192, 269584384, 539168768, 1078337569, 2156675138, 17301636, 34603272, 69206544, 138413088, 276826176, 553652352, 1107304704, 2214609408, 134251520, 268503040, 537006080, 1074012160, 2148024320]
def invs : List Nat := [4071982377, 3848997458, 3738612901, 3182258506, 2069549716, 4139099432, 3983231568, 3470144673, 2645322050, 995676804, 1991353608, 3982707216, 3469095969, 2643224642, 991481988, 1982963976, 3965927952, 3435537441, 2576107586, 857247876, 1714495752, 3428991504, 2294547488, 294127680, 588255360, 1176510720, 2353021440, 142607360, 285214720, 570429440, 1140858880, 2281717760]
def rest : List Nat := [1061652565, 1181629605, 441517871, 245369429, 1611211023, 2025045110, 3044449240, 2166298889, 2604485390, 1878047557, 3965581186, 2175609916, 582788676, 3017796457, 1437558521, 553469240, 1981575240, 1518235277, 4090461785, 404133596, 3617124299, 289286323, 3544662175, 2091619384, 272337920, 3294173963, 1340851390, 376049918, 2211370290, 3847492656, 3967983899, 2907432450]
def pw : Nat → List Nat
  | 0 => cols
  | n + 1 => (pw n).map (app (pw n))

theorem cols_ok : (List.range 32).all (fun i => step (2 ^ i) == app cols (2 ^ i)) = true := by decide +kernel
theorem invs_ok : (List.range 32).all (fun i => app invs (step (2 ^ i)) == 2 ^ i) = true := by decide +kernel

theorem all_of {p : Nat → Bool} (h : (List.range 32).all p = true) (i : Nat) (hi : i < 32) : p i = true :=
  (List.all_eq_true.mp h) i (List.mem_range.mpr hi)
theorem step_cols {x : Nat} (h : x < 4294967296) : step x = app cols x :=
  lin_ext lin_step (lin_app cols) 32 (fun i hi => by simpa using all_of cols_ok i hi) x h
theorem step_inv {x : Nat} (h : x < 4294967296) : app invs (step x) = x :=
  lin_ext ((lin_app invs).comp lin_step) lin_id 32 (fun i hi => by simpa using all_of invs_ok i hi) x h
theorem step_inj {x y : Nat} (hx : x < 4294967296) (hy : y < 4294967296) (h : step x = step y) : x = y := by
  rw [← step_inv hx, ← step_inv hy, h]
theorem step_pos {x : Nat} (hx : x < 4294967296) (h : x ≠ 0) : step x ≠ 0 := by
  intro h0
  exact h (step_inj hx (by decide) (h0.trans lin_step.zero.symm))

/-! ### How long draws do not come back -/
theorem pw_ok : ∀ (n : Nat) {x : Nat}, x < 4294967296 → iter (2 ^ n) x = app (pw n) x
  | 0, x, h => by
    have e : iter (2 ^ 0) x = step x := rfl
    exact e.trans (step_cols h)
  | n + 1, x, h => by
    rw [Nat.pow_succ, Nat.mul_two, iter_add, pw_ok n (iter_lt h _), pw_ok n h]
    exact (app_map (lin_app (pw n)) (pw n) x).symm
theorem pw_all : pw 32 = cols := by decide +kernel
theorem rest_ok : (List.range 32).all (fun i => app rest (app (pw 8) (2 ^ i) ^^^ step (2 ^ i)) == 2 ^ i) = true := by decide +kernel
theorem rest_inv {x : Nat} (h : x < 4294967296) : app rest (app (pw 8) x ^^^ step x) = x :=
  lin_ext ((lin_app rest).comp ((lin_app (pw 8)).xor lin_step)) lin_id 32 (fun i hi => by simpa using all_of rest_ok i hi) x h
theorem period {M x : Nat} (hM : M + 1 = 2 ^ 32) (h : x < 4294967296) : iter M x = x := by
  have h1 : iter (M + 1) x = step x := by rw [hM, pw_ok 32 h, pw_all, step_cols h]
  rw [iter_succ] at h1
  exact step_inj (iter_lt h M) h h1
theorem iter_mul {k x : Nat} (h : iter k x = x) : ∀ u, iter (k * u) x = x
  | 0 => rfl
  | u + 1 => by rw [Nat.mul_succ, iter_add, iter_mul h u, h]
def us : List Nat := [255, 2147483775, 85, 3221225535, 51, 715827925, 3681400575, 3758096415, 954437205, 429496755, 1171354740, 1073741845, 3964585215, 3988183935, 17, 4026531855, 15, 1193046485, 1356305475, 644245107, 1227133525, 585677370, 746950845, 1252698805, 171798702, 4129776255, 318145735, 4141575615, 1777227855, 143165585, 1108378665, 4160749575, 390451580, 126322575, 736280115, 1312351125, 1509042570, 2825636385, 1321528405, 751619283, 1047553005, 1329394645, 2596956975, 292838685, 190887441, 2520959070, 1736263380, 1342177285, 3593748150, 85899351, 5, 4212371775, 648296955, 874900750, 234270948, 4218271455, 452101825, 3036097575, 3494210685, 214748369, 3590874300, 2701672980, 1363481685, 4227858435, 792917043, 195225790, 2307743625, 189483855, 248983615, 797636787, 2903639865, 1372003445, 3118263930, 754521285, 57266234, 3560301840, 3848736930, 1376592085, 2609600385, 805306371, 1060485755, 2671260150, 3725754765, 1380525205, 3, 3445962135, 592409285, 2293902990, 3136773870, 238609297, 4247769855, 1260479535, 369459555, 868131690, 271261095, 1386916525, 1815398550, 1796874075, 607369115, 472446405, 2466416865, 42107525, 2668717545, 4253669535, 245426705, 2471632125, 401398815, 437450375, 2127781965, 117135474, 503014190, 4256619375, 3648821775, 941878795, 149390169, 3665532435, 1394946645, 3894588990, 216552975, 250539761, 3620550945, 1795437150, 349184335, 1350836490, 377957124, 1397568725, 3720050415, 4261412865, 865652325, 825955251, 557362170, 97612895, 193757925, 3301355460, 63629147, 221064495, 2100458460, 840319690, 339889500, 828315123, 578754460, 3599303580, 750868410, 1401829605, 355445571, 1559131965, 1197916050, 2524744290, 2190721575, 28633117, 1877270475, 1780150920, 56143365, 1924368465, 221675733, 1404123925, 437703675, 3452283840, 216098985, 832149915, 720274020, 1246070760, 843183765, 1335630075, 78090316, 4010361030, 1054453050, 1406090485, 3278406990, 25264515, 1105137785, 3870464715, 3550175280, 1012032525, 147256023, 1146951495, 1164736895, 1568386935, 3215226915, 262470225, 2942408535, 4271368575, 1196958100, 2777723415, 301808514, 900557660, 68903220, 434065845, 454493895, 565127277, 2990736390, 1409286145, 1913819625, 907699275, 264305681, 3045920685, 1417121190, 1019512440, 2741009280, 665719932, 769247875, 3380692080, 867456450, 63161285, 209510601, 3481842420, 1037431715, 4274318415, 513752070, 265878929, 325684725, 3383299710, 967879955, 2348183055, 519391395, 934553070, 2612606835, 3211374630, 1039421310, 58567737, 233210895, 251507095, 1328936070, 4275793335, 209976180, 3971894535, 340570095, 1186767280, 3057116460, 504191814, 1282912310, 3980249865, 2396333685, 1413301205, 347252676, 1947294495, 869866795, 234599055, 3504262020, 268435457, 4277145855, 3957759120, 830713840, 897718575, 718749630, 890420050, 434713290, 675418245, 1241918255]
theorem us_ok : (List.range 249).all (fun i => (i + 1) * us.getD i 0 % 4294967295 == 255) = true := by decide +kernel
theorem no_return {k x : Nat} (h1 : 1 ≤ k) (h2 : k < 250) (hx : x < 4294967296) (h : iter k x = x) : x = 0 := by
  have hu := (List.all_eq_true.mp us_ok) (k - 1) (List.mem_range.mpr (by omega))
  rw [beq_iff_eq, Nat.sub_add_cancel h1] at hu
  have hk := iter_mul h (us.getD (k - 1) 0)
  generalize us.getD (k - 1) 0 = u at hu hk
  obtain ⟨M, hM⟩ : ∃ M : Nat, M = 4294967295 := ⟨_, rfl⟩
  rw [← hM] at hu
  have hM' : M + 1 = 2 ^ 32 := by rw [hM]
  have hd := Nat.div_add_mod (k * u) M
  rw [hu] at hd
  rw [← hd, iter_add, iter_mul (period hM' hx)] at hk
  have h256 : iter (255 + 1) x = step x := by rw [iter_succ, hk]
  have e8 : (255 : Nat) + 1 = 2 ^ 8 := by decide
  rw [e8, pw_ok 8 hx] at h256
  have := rest_inv hx
  rw [h256, Nat.xor_self, (lin_app rest).zero] at this
  exact this.symm
/-- draws of one that is not 0, fewer than 250 apart, are unlike -/
theorem iter_ne {y i j : Nat} (hy : y < 4294967296) (h0 : y ≠ 0) (hij : i < j) (hj : j < 250) : iter i y ≠ iter j y := by
  intro h
  have hz : ∀ n, iter n y ≠ 0 := by
    intro n
    induction n with
    | zero => exact h0
    | succ n ih => exact step_pos (iter_lt hy n) ih
  have e : j = i + (j - i) := by omega
  rw [e, iter_add] at h
  exact hz i (no_return (by omega) (by omega) (iter_lt hy i) h.symm)

/-! ### The draw as the walk spells it -/
theorem draw_lt {x : Nat} (h : x < 4294967296) : draw x < 4294967296 := by
  unfold draw
  split
  · decide
  · exact step_lt h
theorem draw_ne {x : Nat} (h : x < 4294967296) : draw x ≠ 0 := by
  unfold draw
  split
  · decide
  · next hz => exact step_pos h hz
theorem drawI_zero {a : Int} (h : (a == 0) = true) : (2463534242 : Int) = drawI a := by
  rw [beq_iff_eq] at h; subst h; rfl
theorem drawI_step {a : Int} (h0 : 0 ≤ a) (h1 : a < 4294967296) (hz : (a == 0) = false) :
    bits BinOp.xor IntKind.u32
        (bits BinOp.xor IntKind.u32 (bits BinOp.xor IntKind.u32 a (a * 8192 % 4294967296)) (bits BinOp.xor IntKind.u32 a (a * 8192 % 4294967296) / 131072))
        (bits BinOp.xor IntKind.u32 (bits BinOp.xor IntKind.u32 a (a * 8192 % 4294967296)) (bits BinOp.xor IntKind.u32 a (a * 8192 % 4294967296) / 131072) * 32 % 4294967296) = drawI a := by
  obtain ⟨x, rfl⟩ := Int.eq_ofNat_of_zero_le h0
  have hx : x < 4294967296 := by omega
  have hne : x ≠ 0 := by intro h; subst h; simp at hz
  have e32 : (4294967296 : Nat) = 2 ^ 32 := by decide
  have m : ∀ a : Nat, a % 4294967296 < 4294967296 := fun a => Nat.mod_lt _ (by decide)
  have x1 : bits BinOp.xor IntKind.u32 (x : Int) ((x : Int) * 8192 % 4294967296) = ((x ^^^ (x * 8192 % 4294967296) : Nat) : Int) := by
    have c : (x : Int) * 8192 % 4294967296 = ((x * 8192 % 4294967296 : Nat) : Int) := by omega
    rw [c]; exact u32_xor_nat _ _ hx (m _)
  have l1 : (x ^^^ (x * 8192 % 4294967296)) < 4294967296 := by
    rw [e32] at hx ⊢; exact Nat.xor_lt_two_pow hx (Nat.mod_lt _ (by decide))
  rw [x1]
  have hdraw : drawI (x : Int) = ((step x : Nat) : Int) := by unfold drawI draw; rw [if_neg (by simpa using hne)]; rfl
  rw [hdraw]
  unfold step
  generalize (x ^^^ (x * 8192 % 4294967296)) = y at l1 ⊢
  have x2 : bits BinOp.xor IntKind.u32 (y : Int) ((y : Int) / 131072) = ((y ^^^ (y / 131072) : Nat) : Int) := by
    have c : (y : Int) / 131072 = ((y / 131072 : Nat) : Int) := by omega
    rw [c]; exact u32_xor_nat _ _ l1 (by omega)
  have l2 : (y ^^^ (y / 131072)) < 4294967296 := by
    rw [e32] at l1 ⊢; exact Nat.xor_lt_two_pow l1 (by omega)
  rw [x2]
  generalize (y ^^^ (y / 131072)) = z at l2 ⊢
  have c : (z : Int) * 32 % 4294967296 = ((z * 32 % 4294967296 : Nat) : Int) := by omega
  rw [c]; exact u32_xor_nat _ _ l2 (m _)

theorem drawI_bounds {a : Int} (h0 : 0 ≤ a) (h1 : a < 4294967296) : 0 < drawI a ∧ drawI a < 4294967296 := by
  have hl := draw_lt (x := a.toNat) (by omega)
  have hn := draw_ne (x := a.toNat) (by omega)
  unfold drawI; omega
theorem drawI_inj {a b : Int} (h0 : 0 < a) (h1 : a < 4294967296) (g0 : 0 < b) (g1 : b < 4294967296) (h : drawI a = drawI b) : a = b := by
  unfold drawI draw at h
  rw [if_neg (by omega), if_neg (by omega)] at h
  have := step_inj (x := a.toNat) (y := b.toNat) (by omega) (by omega) (by omega)
  omega

/-! ### A pick -/
def pickI (x n : Int) : Int := if n < 1 then 0 else x % n
theorem pickI_low {x n : Int} (h : n < 1) : (0 : Int) = pickI x n := by unfold pickI; rw [if_pos h]
theorem u64_id {a : Int} (h0 : 0 ≤ a) (h1 : a < 18446744073709551616) : IntKind.u64.wrap a = a := by rw [IntKind.wrap_u64]; omega
theorem pickI_walk {x n : Int} (hn : 1 ≤ n) (hn2 : n ≤ 9223372036854775807) :
    wrap64 (x % n) = pickI x n := by
  unfold pickI
  rw [if_neg (by omega)]
  have a := Int.emod_nonneg x (b := n) (by omega)
  have b := Int.emod_lt_of_pos x (b := n) (by omega)
  exact wrap_fit (by unfold Fit; omega)
theorem pickI_bounds {x n : Int} (hn : 1 ≤ n) : 0 ≤ pickI x n ∧ pickI x n < n := by
  unfold pickI
  rw [if_neg (by omega)]
  exact ⟨Int.emod_nonneg x (by omega), Int.emod_lt_of_pos x (by omega)⟩

/-! ### A number within bounds -/
def withinI (v n : Int) : Int := if n < 1 then 0 else v % n
theorem within_neg {v n : Int} (h : 1 ≤ n) (hn : n ≤ 9223372036854775807) (hv : v.tmod n < 0) : wrap64 (v.tmod n + n) = withinI v n := by
  unfold withinI
  rw [if_neg (by omega)]
  have hm := Int.tmod_eq_emod (a := v) (b := n)
  have hl := Int.lt_tmod_of_pos v (b := n) (by omega)
  have b := Int.emod_lt_of_pos v (b := n) (by omega)
  have a := Int.emod_nonneg v (b := n) (by omega)
  have e : v % n = v.tmod n + n := by
    rw [hm] at hv ⊢
    split at hv
    · omega
    · next hc => rw [if_neg hc]; omega
  rw [e]
  exact wrap_fit (by unfold Fit; omega)
theorem within_pos {v n : Int} (h : 1 ≤ n) (hv : 0 ≤ v.tmod n) : v.tmod n = withinI v n := by
  unfold withinI
  rw [if_neg (by omega)]
  have hm := Int.tmod_eq_emod (a := v) (b := n)
  have b := Int.emod_lt_of_pos v (b := n) (by omega)
  rw [hm] at hv ⊢
  split
  · omega
  · next hc => rw [if_neg hc] at hv; omega
theorem withinI_bounds {v n : Int} (hn : 1 ≤ n) : 0 ≤ withinI v n ∧ withinI v n < n := by
  unfold withinI
  rw [if_neg (by omega)]
  exact ⟨Int.emod_nonneg v (by omega), Int.emod_lt_of_pos v (by omega)⟩

/-! ### Laws of sums and products, as the statements ask them -/
theorem fit_addV (a b : Int) : Fit (addV a b) := by
  unfold addV
  split
  · next h => exact fit_of h
  · unfold Fit; omega
theorem fit_mulV (a b : Int) : Fit (mulV a b) := by
  unfold mulV
  split
  · next h => exact fit_of h
  · unfold Fit; omega
theorem addV_ok {a b : Int} (h : addOk a b = true) : addV a b = a + b := by unfold addV; unfold addOk at h; rw [h]; rfl
theorem addV_no {a b : Int} (h : addOk a b = false) : addV a b = 0 := by unfold addV; unfold addOk at h; rw [h]; rfl
theorem mulV_ok {a b : Int} (h : mulOk a b = true) : mulV a b = a * b := by unfold mulV; unfold mulOk at h; rw [h]; rfl
theorem mulV_no {a b : Int} (h : mulOk a b = false) : mulV a b = 0 := by unfold mulV; unfold mulOk at h; rw [h]; rfl
theorem addOk_fit {a b : Int} (h : addOk a b = true) : Fit (a + b) := fit_of h
theorem mulOk_fit {a b : Int} (h : mulOk a b = true) : Fit (a * b) := fit_of h
theorem addOk_mk {a b : Int} (h : Fit (a + b)) : addOk a b = true := fitB_true h
theorem mulOk_mk {a b : Int} (h : Fit (a * b)) : mulOk a b = true := fitB_true h
theorem mulOk_not {a b : Int} (h : ¬ Fit (a * b)) : mulOk a b = false := fitB_false h
theorem addOk_not {a b : Int} (h : ¬ Fit (a + b)) : addOk a b = false := fitB_false h

theorem fit_wf {a : Int} (h : (Lit.int .i64 a).wf = true) : Fit a := by
  simp [Lit.wf, IntKind.min, IntKind.max, IntKind.bits, IntKind.signed] at h
  unfold Fit; omega
theorem u32_wf {a : Int} (h : (Lit.int .u32 a).wf = true) : 0 ≤ a ∧ a < 4294967296 := by
  simp [Lit.wf, IntKind.min, IntKind.max, IntKind.bits, IntKind.signed] at h
  omega

/-- three sums -/
theorem sums_three {a b c : Int} (h1 : addOk a b = true) (h2 : addOk (addV a b) c = true) (h3 : addOk b c = true) :
    addOk a (addV b c) = true ∧ addV (addV a b) c = addV a (addV b c) := by
  have f2 := addOk_fit h2
  have e2 := addV_ok h2
  rw [addV_ok h1] at f2 e2 ⊢
  rw [addV_ok h3]
  have g : Fit (a + (b + c)) := by rw [← Int.add_assoc]; exact f2
  refine ⟨addOk_mk g, ?_⟩
  rw [addV_ok (addOk_mk g), e2, Int.add_assoc]
/-- a product parts over a sum -/
theorem parts_over {a b c : Int} (h1 : addOk a b = true) (h2 : mulOk a c = true) (h3 : mulOk b c = true) (h4 : addOk (mulV a c) (mulV b c) = true) :
    mulOk (addV a b) c = true ∧ addV (mulV a c) (mulV b c) = mulV (addV a b) c := by
  have f := addOk_fit h4
  have e := addV_ok h4
  rw [mulV_ok h2, mulV_ok h3] at f e ⊢
  rw [addV_ok h1]
  have g : Fit ((a + b) * c) := by rw [Int.add_mul]; exact f
  refine ⟨mulOk_mk g, ?_⟩
  rw [mulV_ok (mulOk_mk g), e, Int.add_mul]
/-- the test of a sum, as the statement makes it -/
theorem add_test {a b : Int} (ha : Fit a) (hb : Fit b) : addOk a b = (decide (0 ≤ b) == decide (a ≤ wrap64 (a + b))) := by
  unfold Fit at ha hb
  have hw : wrap64 (a + b) = (a + b + 9223372036854775808) % 18446744073709551616 - 9223372036854775808 := rfl
  generalize wrap64 (a + b) = s at hw
  rcases h : addOk a b with _ | _
  · have hn := nofit_of h
    unfold Fit at hn
    by_cases h1 : 0 ≤ b <;> by_cases h2 : a ≤ s <;> simp [h1, h2] <;> omega
  · have hn := fit_of h
    unfold Fit at hn
    by_cases h1 : 0 ≤ b <;> by_cases h2 : a ≤ s <;> simp [h1, h2] <;> omega

end Go.Proofs.Ytnnoglnnaliadaa
