/-
  The digest of a list of bytes, by the page (P1.1), over natural numbers. Nothing of the program is named here.
-/
namespace Go.Proofs.YtbpdeehpeflbeaaDoor

def M32 : Nat := 4294967296
/-- turned by n: to the right, what falls out comes in on the left -/
def rotr (n x : Nat) : Nat := (x * 2 ^ (32 - n) % 4294967296) ||| (x / 2 ^ n)
def add32 (a b : Nat) : Nat := (a + b) % 4294967296
def s0 (x : Nat) : Nat := rotr 7 x ^^^ rotr 18 x ^^^ (x / 8)
def s1 (x : Nat) : Nat := rotr 17 x ^^^ rotr 19 x ^^^ (x / 1024)
def S0 (x : Nat) : Nat := rotr 2 x ^^^ rotr 13 x ^^^ rotr 22 x
def S1 (x : Nat) : Nat := rotr 6 x ^^^ rotr 11 x ^^^ rotr 25 x
def ch (e f g : Nat) : Nat := (e &&& f) ^^^ ((4294967295 - e) &&& g)
def maj (a b c : Nat) : Nat := (a &&& b) ^^^ (a &&& c) ^^^ (b &&& c)

def H0 : List Nat := [1779033703, 3144134277, 1013904242, 2773480762, 1359893119, 2600822924, 528734635, 1541459225]
def K : List Nat := [1116352408, 1899447441, 3049323471, 3921009573, 961987163, 1508970993, 2453635748, 2870763221, 3624381080, 310598401, 607225278, 1426881987, 1925078388, 2162078206, 2614888103, 3248222580, 3835390401, 4022224774, 264347078, 604807628, 770255983, 1249150122, 1555081692, 1996064986, 2554220882, 2821834349, 2952996808, 3210313671, 3336571891, 3584528711, 113926993, 338241895, 666307205, 773529912, 1294757372, 1396182291, 1695183700, 1986661051, 2177026350, 2456956037, 2730485921, 2820302411, 3259730800, 3345764771, 3516065817, 3600352804, 4094571909, 275423344, 430227734, 506948616, 659060556, 883997877, 958139571, 1322822218, 1537002063, 1747873779, 1955562222, 2024104815, 2227730452, 2361852424, 2428436474, 2756734187, 3204031479, 3329325298]

/-- one byte more of the first sixteen words -/
def wordStep (bl W : List Nat) (i : Nat) : List Nat := W.set (i / 4) (W.getD (i / 4) 0 * 256 % 4294967296 + bl.getD i 0)
def words1 (bl : List Nat) : Nat → List Nat
  | 0 => List.replicate 64 0
  | k + 1 => wordStep bl (words1 bl k) k
/-- one word more -/
def wordExt (W : List Nat) (i : Nat) : List Nat :=
  W.set i (add32 (add32 (add32 (W.getD (i - 16) 0) (s0 (W.getD (i - 15) 0))) (W.getD (i - 7) 0)) (s1 (W.getD (i - 2) 0)))
def words2 (bl : List Nat) : Nat → List Nat
  | 0 => words1 bl 64
  | k + 1 => wordExt (words2 bl k) (16 + k)
def wordsOf (bl : List Nat) : List Nat := words2 bl 48

/-- a to h -/
structure Vs where
  a : Nat
  b : Nat
  c : Nat
  d : Nat
  e : Nat
  f : Nat
  g : Nat
  h : Nat
def tOf (v : Vs) (k w : Nat) : Nat := add32 (add32 (add32 (add32 v.h (S1 v.e)) (ch v.e v.f v.g)) k) w
def uOf (v : Vs) : Nat := add32 (S0 v.a) (maj v.a v.b v.c)
def roundOf (v : Vs) (k w : Nat) : Vs := ⟨add32 (tOf v k w) (uOf v), v.a, v.b, v.c, add32 v.d (tOf v k w), v.e, v.f, v.g⟩
def roundsOf (W : List Nat) (v : Vs) : Nat → Vs
  | 0 => v
  | k + 1 => roundOf (roundsOf W v k) (K.getD k 0) (W.getD k 0)
def vsOf (hs : List Nat) : Vs := ⟨hs.getD 0 0, hs.getD 1 0, hs.getD 2 0, hs.getD 3 0, hs.getD 4 0, hs.getD 5 0, hs.getD 6 0, hs.getD 7 0⟩
def Vs.list (v : Vs) : List Nat := [v.a, v.b, v.c, v.d, v.e, v.f, v.g, v.h]
/-- the sums behind one block -/
def mixOf (hs bl : List Nat) : List Nat := List.zipWith add32 hs (roundsOf (wordsOf bl) (vsOf hs) 64).list

/-- the sums behind n blocks -/
def blk : Nat → List Nat → List Nat → List Nat
  | 0, hs, _ => hs
  | n + 1, hs, l => blk n (mixOf hs (l.take 64)) (l.drop 64)
/-- the bytes, with what is laid behind them: 0x80, bytes 0, how many bits -/
def countB (n : Nat) : List Nat := (List.range 8).map fun i => n / 2 ^ (56 - 8 * i) % 256
def padded (l : List Nat) : List Nat := l ++ 128 :: (List.replicate ((119 - l.length % 64) % 64) 0 ++ countB (8 * l.length % 18446744073709551616))
def digestOf (hs : List Nat) : List Nat := (List.range 32).map fun i => hs.getD (i / 4) 0 / 2 ^ (24 - 8 * (i % 4)) % 256
def shaOf (l : List Nat) : List Nat := digestOf (blk ((padded l).length / 64) H0 (padded l))

def hexOf (l : List Nat) : List Nat := l.flatMap fun c => [[48, 49, 50, 51, 52, 53, 54, 55, 56, 57, 97, 98, 99, 100, 101, 102].getD (c / 16) 0, [48, 49, 50, 51, 52, 53, 54, 55, 56, 57, 97, 98, 99, 100, 101, 102].getD (c % 16) 0]

theorem head1 : hexOf (shaOf [97, 98, 99]) = [98, 97, 55, 56, 49, 54, 98, 102, 56, 102, 48, 49, 99, 102, 101, 97, 52, 49, 52, 49, 52, 48, 100, 101, 53, 100, 97, 101, 50, 50, 50, 51, 98, 48, 48, 51, 54, 49, 97, 51, 57, 54, 49, 55, 55, 97, 57, 99, 98, 52, 49, 48, 102, 102, 54, 49, 102, 50, 48, 48, 49, 53, 97, 100] := by
  decide +kernel
theorem head2 : hexOf (shaOf [97, 98, 99, 100, 98, 99, 100, 101, 99, 100, 101, 102, 100, 101, 102, 103, 101, 102, 103, 104, 102, 103, 104, 105, 103, 104, 105, 106, 104, 105, 106, 107, 105, 106, 107, 108, 106, 107, 108, 109, 107, 108, 109, 110, 108, 109, 110, 111, 109, 110, 111, 112, 110, 111, 112, 113]) = [50, 52, 56, 100, 54, 97, 54, 49, 100, 50, 48, 54, 51, 56, 98, 56, 101, 53, 99, 48, 50, 54, 57, 51, 48, 99, 51, 101, 54, 48, 51, 57, 97, 51, 51, 99, 101, 52, 53, 57, 54, 52, 102, 102, 50, 49, 54, 55, 102, 54, 101, 99, 101, 100, 100, 52, 49, 57, 100, 98, 48, 54, 99, 49] := by
  decide +kernel

end Go.Proofs.YtbpdeehpeflbeaaDoor
