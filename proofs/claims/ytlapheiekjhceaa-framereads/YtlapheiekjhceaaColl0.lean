/-
  CRC-32 by a table; rows of bytes that go on by one step: whether a sum comes again. No program is named here.
-/
import Derived.Test.YtlapheiekjhceaaCrc
namespace Go.Proofs.Ytlapheiekjhceaa
set_option linter.unusedVariables false
set_option linter.unusedSimpArgs false
open Go.RowKit

def tab : Nat := 191781931866985559621651535760735696673856346713887891597305215034209910220001862487342664719235424489376241530245261416506414575980417952467156150107317449804134056257716516419112328720131160031456481696823125446157373092479201248890302123815375087579814780306302465238014574686590130429322061672822152808302584144548153239526865349163683956765968513272069020595772598256391810863039343892818777390988989484387641140032565380688427043259765038805963005205961532183550801462253286244137065761003679520439085992511812747153023950988237051482297475963397445683294857871623710491443494995887883262049609400235784616301914504614852100915093667425320505522569448617573499542922012206538552994923376999879042244179649278486539688567765080810044274289792776818305348943521622626710878290771699129542630700634428853941830696095884539637866540751870989118613898226745049792152623499445281592614081205541985653143393913751853573884386717370504757525450126884015918318526676861728753890367452704650663987939986219768247293259525516712103938189788961727671665583423846301460611946049409459047739687307696235742781609353855728368690241567495209394945831800246045226053014789794812648147087782064443448838513940732911263420963033260564074243893655912557635729647410566500980880275296686932139551470048159522442188851388406016990108609539131275206406529452392139356697170450224378375281123940131103967815428442222478921241843802992958207175757710557124203243943652857525217714700783116853765558053940146905689184430570662124197438683992896538427266983469967391681636142474704834532560212491641513769109191453119295486434232583946536159882324212284713050838488706228253289835044432504923553683244983660554148621837806481305441008673570324340892415493266799132762194172577680912505944139402575723473831901219655706623634449032441308172682686423497289006274475542693850888413509354855109888442809400614039731828034881315553093408757249612302925815547436960120920974901163960048042280802561087650605423221541518940157925281902321885507580234243366499257305095335897959299004866716736669236430206354864789374467091307116826402984124475471120986056028650311289461216452641219222976814212486281160700097480526596597474635034066400713689500662174516288603424994162219769371242282901951357062625582355266271642761008964271320703341335927815387129432557369825457457303399345465981718607329281771814792602549895867734643022520164827992332349645685502120161683551602918412611264947206183976960
def stp (c x : Nat) : Nat := Nat.xor (Nat.div c 256) (Nat.mod (Nat.shiftRight tab (Nat.mul 32 (Nat.mod (Nat.xor c x) 256))) 4294967296)
def far (c0 s : Nat) (n : Nat) : Nat → Nat → Bool :=
  Nat.rec (fun _ _ => true) (fun _ ih x c => (fun d => cond (Nat.beq d c0) false (ih (Nat.mod (Nat.add x s) 256) d)) (stp c x)) n
def runTo (s : Nat) (n : Nat) : Nat → Nat → (Nat → Nat → Bool) → Bool :=
  Nat.rec (fun x c k => k x c) (fun _ ih x c k => (fun d => cond (Nat.ble d 4294967296) (ih (Nat.mod (Nat.add x s) 256) d k) false) (stp c x)) n
def oneFar (a s : Nat) : Bool := runTo s 15 a 4294967295 (fun x c => far c s 84 x c)
def allS (a : Nat) (n : Nat) : Bool := Nat.rec true (fun i ih => cond (oneFar a (Nat.add (Nat.mul 2 i) 1)) ih false) n
def allA (b n : Nat) : Bool := Nat.rec true (fun i ih => cond (allS (Nat.add b i) 128) ih false) n
theorem crcBit_xor (x y : Nat) : crcBit (x ^^^ y) = crcBit x ^^^ crcBit y := by
  unfold crcBit
  have h1 : (x ^^^ y) / 2 = (x / 2) ^^^ (y / 2) := by
    have := Nat.shiftRight_xor_distrib (a := x) (b := y) (i := 1)
    simpa [Nat.shiftRight_succ] using this
  have h2 : (x ^^^ y) % 2 = (x % 2) ^^^ (y % 2) := by
    have := Nat.xor_mod_two_pow (a := x) (b := y) (n := 1)
    simpa using this
  rw [h1, h2]
  have h3 : 3988292384 * ((x % 2) ^^^ (y % 2)) = (3988292384 * (x % 2)) ^^^ (3988292384 * (y % 2)) := by
    rcases Nat.mod_two_eq_zero_or_one x with e | e <;> rcases Nat.mod_two_eq_zero_or_one y with f | f <;> rw [e, f] <;> decide
  rw [h3]
  ac_rfl
theorem crcBits_xor : ∀ (k x y : Nat), crcBits k (x ^^^ y) = crcBits k x ^^^ crcBits k y
  | 0, _, _ => rfl
  | k + 1, x, y => by simp only [crcBits]; rw [crcBit_xor, crcBits_xor k]
theorem crcBit_two (m : Nat) : crcBit (m * 2) = m := by simp [crcBit]
theorem crcBits_256 (m : Nat) : crcBits 8 (m * 256) = m := by
  simp only [crcBits]
  rw [show m * 256 = m * 128 * 2 by omega, crcBit_two, show m * 128 = m * 64 * 2 by omega, crcBit_two, show m * 64 = m * 32 * 2 by omega, crcBit_two, show m * 32 = m * 16 * 2 by omega, crcBit_two, show m * 16 = m * 8 * 2 by omega, crcBit_two, show m * 8 = m * 4 * 2 by omega, crcBit_two, show m * 4 = m * 2 * 2 by omega, crcBit_two, crcBit_two]
theorem split256 (u : Nat) : (u / 256 * 256) ^^^ (u % 256) = u := by
  apply Nat.eq_of_testBit_eq
  intro i
  rw [Nat.testBit_xor, show (256 : Nat) = 2 ^ 8 from rfl, Nat.testBit_mul_two_pow, Nat.testBit_mod_two_pow, Nat.testBit_div_two_pow]
  by_cases h : i < 8
  · simp [h, show ¬ 8 ≤ i by omega]
  · simp [h, show 8 ≤ i by omega, show 8 + (i - 8) = i by omega, show i - 8 + 8 = i by omega]
theorem tab_ok : (List.range 256).all (fun r => Nat.beq (crcBits 8 r) (Nat.mod (Nat.shiftRight tab (Nat.mul 32 r)) 4294967296)) = true := by decide +kernel
theorem tab_at (r : Nat) (h : r < 256) : crcBits 8 r = Nat.mod (Nat.shiftRight tab (Nat.mul 32 r)) 4294967296 := by
  have := List.all_eq_true.1 tab_ok r (List.mem_range.2 h)
  exact Nat.eq_of_beq_eq_true this
theorem stp_is (c x : Nat) (hx : x < 256) : stp c x = crcByte c x := by
  have h1 : (c ^^^ x) / 256 = c / 256 := by
    have := Nat.shiftRight_xor_distrib (a := c) (b := x) (i := 8)
    rw [Nat.shiftRight_eq_div_pow, Nat.shiftRight_eq_div_pow, Nat.shiftRight_eq_div_pow] at this
    rw [show (2 : Nat) ^ 8 = 256 from rfl, Nat.div_eq_of_lt hx, Nat.xor_zero] at this
    exact this
  unfold crcByte
  rw [← split256 (c ^^^ x), crcBits_xor, crcBits_256, tab_at _ (Nat.mod_lt _ (by omega)), h1]
  rfl
/-- The bytes x, x + s, .. -/
def seqB (s : Nat) : Nat → Nat → List Int
  | _, 0 => []
  | x, n + 1 => (x : Int) :: seqB s ((x + s) % 256) n
theorem far_spec (c0 s : Nat) : ∀ (n x c : Nat), x < 256 → far c0 s n x c = true → ∀ m, 1 ≤ m → m ≤ n → crcFrom c (seqB s x m) ≠ c0
  | 0, _, _, _, _, m, h1, h2 => by omega
  | n + 1, x, c, hx, h, m, h1, h2 => by
    have h' : cond (Nat.beq (stp c x) c0) false (far c0 s n ((x + s) % 256) (stp c x)) = true := h
    cases hb : Nat.beq (stp c x) c0
    · rw [hb] at h'
      simp only [cond_false] at h'
      match m, h1 with
      | 1, _ =>
        intro e
        have e2 : stp c x = c0 := by rw [stp_is c x hx, ← e]; rfl
        rw [e2, Nat.beq_refl] at hb
        cases hb
      | m + 2, _ =>
        have ih := far_spec c0 s n ((x + s) % 256) (stp c x) (Nat.mod_lt _ (by omega)) h' (m + 1) (by omega) (by omega)
        rw [stp_is c x hx] at ih
        exact ih
    · rw [hb] at h'; cases h'
theorem runTo_spec (s : Nat) (k : Nat → Nat → Bool) : ∀ (n x c : Nat), x < 256 → runTo s n x c k = true → ∃ x', x' < 256 ∧ k x' (crcFrom c (seqB s x n)) = true ∧ ∀ m, seqB s x (n + m) = seqB s x n ++ seqB s x' m
  | 0, x, c, hx, h => ⟨x, hx, h, fun m => by simp [seqB]⟩
  | n + 1, x, c, hx, h => by
    have h' : cond (Nat.ble (stp c x) 4294967296) (runTo s n ((x + s) % 256) (stp c x) k) false = true := h
    cases hb : Nat.ble (stp c x) 4294967296
    · rw [hb] at h'; cases h'
    · rw [hb] at h'
      simp only [cond_true] at h'
      obtain ⟨x', hx', h2, h3⟩ := runTo_spec s k n ((x + s) % 256) (stp c x) (Nat.mod_lt _ (by omega)) h'
      refine ⟨x', hx', ?_, fun m => ?_⟩
      · rw [stp_is c x hx] at h2; exact h2
      · rw [show n + 1 + m = (n + m) + 1 by omega]
        simp only [seqB, List.cons_append]
        rw [h3 m]
theorem allS_spec (a : Nat) : ∀ n, allS a n = true → ∀ i, i < n → oneFar a (2 * i + 1) = true
  | 0, _, i, hi => by omega
  | n + 1, h, i, hi => by
    have h' : cond (oneFar a (2 * n + 1)) (allS a n) false = true := h
    cases hb : oneFar a (2 * n + 1)
    · rw [hb] at h'; cases h'
    · rw [hb] at h'
      simp only [cond_true] at h'
      rcases Nat.lt_succ_iff_lt_or_eq.1 hi with hi | rfl
      · exact allS_spec a n h' i hi
      · exact hb
theorem allA_spec (b : Nat) : ∀ n, allA b n = true → ∀ j, j < n → allS (b + j) 128 = true
  | 0, _, j, hj => by omega
  | n + 1, h, j, hj => by
    have h' : cond (allS (b + n) 128) (allA b n) false = true := h
    cases hb : allS (b + n) 128
    · rw [hb] at h'; cases h'
    · rw [hb] at h'
      simp only [cond_true] at h'
      rcases Nat.lt_succ_iff_lt_or_eq.1 hj with hj | rfl
      · exact allA_spec b n h' j hj
      · exact hb
/-- Where it was looked for, no sum of the first fifteen comes again. -/
theorem oneFar_spec (a s : Nat) (ha : a < 256) (h : oneFar a s = true) (n : Nat) (h1 : 16 ≤ n) (h2 : n ≤ 99) : crcFrom 4294967295 (seqB s a n) ≠ crcFrom 4294967295 (seqB s a 15) := by
  obtain ⟨x', hx', hf, happ⟩ := runTo_spec s _ 15 a 4294967295 ha h
  have := far_spec _ s 84 x' _ hx' hf (n - 15) (by omega) (by omega)
  rw [← crcFrom_append, ← happ, show 15 + (n - 15) = n by omega] at this
  exact this
end Go.Proofs.Ytlapheiekjhceaa
