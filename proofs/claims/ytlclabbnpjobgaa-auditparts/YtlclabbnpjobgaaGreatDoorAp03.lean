/- Keys by their bits, with no word of the program: what it is to be a key with a bit turned, filled up, the next one, and which stands ahead. -/
import Derived.Test.YtlclabbnpjobgaaGreatDoorAp02
import Derived.Laws.BitsAllLaws
namespace Go.Proofs.YtlclabbnpjobgaaGreatDoor
variable {c d g:Nat}
variable {w:World}
variable {ys zs:Lq}
set_option maxRecDepth 20000
open Go.RowKit
def bt (x:Int) (k:Nat):Int:=x / 2 ^ (7-k) % 2
def kb (xs:Lq) (d:Nat):Int:=bt (xs.getD (d / 8) 0) (d % 8)
def Key (xs:Lq):Prop:=xs.length=32∧Bytes xs
theorem Zqf (x:Int) (k:Nat):bt x k=0∨bt x k=1:=by
 unfold bt;generalize x / 2 ^ (7-k)=y;omega
theorem Zfp (xs:Lq) (d:Nat):kb xs d=0∨kb xs d=1:=Zqf _ _
theorem Zqb (x y:Int) (hx:0≤x∧x≤255) (hy:0≤y∧y≤255) (h:∀k,k<8→bt x k=bt y k):x=y:=by
 have h0:=h 0 (by omega);have h1:=h 1 (by omega);have h2:=h 2 (by omega);have h3:=h 3 (by omega);have h4:=h 4 (by omega);have h5:=h 5 (by omega);have h6:=h 6 (by omega);have h7:=h 7 (by omega);simp only [bt,Nat.reduceSub,Int.reducePow] at h0 h1 h2 h3 h4 h5 h6 h7;omega
theorem Key.byte {xs:Lq} (h:Key xs) (i:Nat):0≤xs.getD i 0∧xs.getD i 0≤255:=h.2.getD i
theorem Zkr {xs:Lq} (hx:Key xs) (hy:Key ys) (h:∀d,d<256→kb xs d=kb ys d):xs=ys:=by
 apply List.ext_getElem (by rw [hx.1,hy.1]);intro i h1 h2;have e:xs.getD i 0=ys.getD i 0:=by
  refine Zqb _ _ (hx.byte i) (hy.byte i) fun k hk=>?_
  have hi:i<32:=by rw [← hx.1];exact h1
  have:=h (8 * i+k) (by omega);unfold kb at this;rw [show (8 * i+k) / 8=i by omega,show (8 * i+k) % 8=k by omega] at this;exact this
 simpa [List.getD,h1,h2] using e
theorem Bytes.set (h:Bytes zs) (i:Nat) (z:Int) (hz:0≤z∧z≤255):Bytes (zs.set i z):=fun u hu=>by
 rcases List.mem_or_eq_of_mem_set hu with h1 | rfl
 ·exact h u h1
 ·exact hz
theorem Key.set {xs:Lq} (h:Key xs) (i:Nat) (z:Int) (hz:0≤z∧z≤255):Key (xs.set i z):=⟨by rw [List.length_set];exact h.1,h.2.set i z hz⟩
theorem Zeh (xs:Lq) (i j:Nat) (z:Int) (hi:i<xs.length):(xs.set i z).getD j 0=if j=i then z else xs.getD j 0:=by
 by_cases e:j=i
 ·subst e;simp [List.getD,hi]
 ·rw [if_neg e];simp [List.getD,List.getElem?_set_ne (Ne.symm e)]
theorem Yhd (xs:Lq) (i d:Nat) (z:Int) (hi:i<xs.length):kb (xs.set i z) d=if d / 8=i then bt z (d % 8) else kb xs d:=by
 unfold kb;rw [Zeh xs i _ z hi]
 by_cases e:d / 8=i
 ·rw [if_pos e,if_pos e]
 ·rw [if_neg e,if_neg e]
def IsSet (xs:Lq) (d:Nat) (b:Int) (ys:Lq):Prop:=Key ys∧∀j,j<256→kb ys j=if j=d then b else kb xs j
def IsFlip (xs:Lq) (d:Nat) (ys:Lq):Prop:=Key ys∧∀j,j<256→kb ys j=if j=d then 1-kb xs j else kb xs j
def IsFill (xs:Lq) (d:Nat) (b:Int) (ys:Lq):Prop:=Key ys∧∀j,j<256→kb ys j=if j<d then kb xs j else b
def IsLast (xs:Lq):Prop:=∀j,j<256→kb xs j=1
def IsNext (xs ys:Lq):Prop:=Key ys∧∃k,k<256∧kb xs k=0∧kb ys k=1∧(∀j,j<k→kb ys j=kb xs j)∧∀j,k<j→j<256→kb xs j=1∧kb ys j=0
def IsCommon (xs ys:Lq) (c:Nat):Prop:=c≤256∧(∀j,j<c→kb xs j=kb ys j)∧(c<256→kb xs c≠kb ys c)
def Ahead (xs ys:Lq):Prop:=∃c,c<256∧(∀j,j<c→kb xs j=kb ys j)∧kb xs c=0∧kb ys c=1
theorem IsFill.one {xs:Lq} {b:Int} (h:IsFill xs d b ys) (k:IsFill xs d b zs):ys=zs:=Zkr h.1 k.1 fun j hj=>by rw [h.2 j hj,k.2 j hj]
theorem IsCommon.one {xs:Lq} (h:IsCommon xs ys c) (k:IsCommon xs ys d):c=d:=by
 obtain ⟨h1,h2,h3⟩:=h;obtain ⟨k1,k2,k3⟩:=k;rcases Nat.lt_trichotomy c d with e | e | e
 ·exact absurd (k2 c e) (h3 (by omega))
 ·exact e
 ·exact absurd (h2 d e) (k3 (by omega))
theorem IsCommon.whole {xs:Lq} (hx:Key xs) (hy:Key ys) (h:IsCommon xs ys 256):xs=ys:=Zkr hx hy h.2.1
theorem IsCommon.self (xs:Lq):IsCommon xs xs 256:=⟨by omega,fun _ _=>rfl,fun h=>by omega⟩
theorem Zdv (n k:Nat):bt (n:Int) k=if n.testBit (7-k) then 1 else 0:=by
 have h:bt (n:Int) k=((n / 2 ^ (7-k) % 2:Nat):Int):=by unfold bt;norm_cast
 rw [h,Nat.testBit_eq_decide_div_mod_eq];have h2:n / 2 ^ (7-k) % 2<2:=Nat.mod_lt _ (by omega)
 by_cases e:n / 2 ^ (7-k) % 2=1
 ·simp [e]
 ·have:n / 2 ^ (7-k) % 2=0:=by omega
  simp [this]
theorem Zed (x:Int) (h:0≤x∧x≤255):∃n:Nat,n<256∧x=n:=⟨x.toNat,by omega,by omega⟩
theorem Yia (x y:Int) (hx:0≤x∧x≤255) (hy:0≤y∧y≤255) (k:Nat):bt (bits .xor .u8 x y) k=if bt x k=bt y k then 0 else 1:=by
 obtain ⟨m,hm,rfl⟩:=Zed x hx;obtain ⟨n,hn,rfl⟩:=Zed y hy;rw [u8_xor_nat m n hm hn,Zdv,Zdv,Zdv,Nat.testBit_xor];cases m.testBit (7-k) <;> cases n.testBit (7-k) <;> simp
theorem Yic (x y:Int) (hx:0≤x∧x≤255) (hy:0≤y∧y≤255) (k:Nat):bt (bits .and .u8 x y) k=if bt y k=1 then bt x k else 0:=by
 obtain ⟨m,hm,rfl⟩:=Zed x hx;obtain ⟨n,hn,rfl⟩:=Zed y hy;rw [u8_and_nat m n hm hn,Zdv,Zdv,Zdv,Nat.testBit_and];cases m.testBit (7-k) <;> cases n.testBit (7-k) <;> simp
theorem Yjg (x y:Int) (hx:0≤x∧x≤255) (hy:0≤y∧y≤255) (k:Nat):bt (bits .or .u8 x y) k=if bt y k=1 then 1 else bt x k:=by
 obtain ⟨m,hm,rfl⟩:=Zed x hx;obtain ⟨n,hn,rfl⟩:=Zed y hy;rw [u8_or_nat m n hm hn,Zdv,Zdv,Zdv,Nat.testBit_or];cases m.testBit (7-k) <;> cases n.testBit (7-k) <;> simp
theorem Zxm (x y:Int) (hx:0≤x∧x≤255) (hy:0≤y∧y≤255) (k:Nat) (hk:k<8):bt (bits .andNot .u8 x y) k=if bt y k=1 then 0 else bt x k:=by
 obtain ⟨m,hm,rfl⟩:=Zed x hx;obtain ⟨n,hn,rfl⟩:=Zed y hy;have hc:bt ((255-n:Nat):Int) k=1-bt (n:Int) k:=by
  have:=(show ∀n,n<256→∀k,k<8→(255-n) / 2 ^ (7-k) % 2+n / 2 ^ (7-k) % 2=1 from by decide+kernel) n hn k hk;have h1:∀q:Nat,bt (q:Int) k=((q / 2 ^ (7-k) % 2:Nat):Int):=by intro q;unfold bt;norm_cast
  rw [h1,h1];omega
 rw [Zdv (255-n)] at hc;rw [u8_andNot_nat m n hm hn,Zdv,Nat.testBit_and,Zdv m k];have h4:=Zqf (n:Int) k;generalize bt (n:Int) k=u at *;cases m.testBit (7-k) <;> cases e2:(255-n).testBit (7-k) <;> rw [e2] at hc <;> simp at hc <;> rcases h4 with rfl | rfl <;> simp at hc ⊢
theorem Zft (op:BinOp) (a b:Int):0≤bits op .u8 a b∧bits op .u8 a b≤255:=bits_within op .u8 a b
theorem Zzy (k:Nat):(255:Int) / 2 ^ k=((255 / 2 ^ k:Nat):Int):=by
 rw [Int.natCast_ediv,Int.natCast_pow];rfl
theorem Yfo (k j:Nat) (hk:k<8) (hj:j<8):bt (255 / 2 ^ k) j=if j<k then 0 else 1:=by
 have:=(show ∀k,k<8→∀j,j<8→255 / 2 ^ k / 2 ^ (7-j) % 2=if j<k then 0 else 1 from by decide+kernel) k hk j hj;have h1:∀q:Nat,bt (q:Int) j=((q / 2 ^ (7-j) % 2:Nat):Int):=by intro q;unfold bt;norm_cast
 rw [Zzy,h1,this]
 by_cases e:j<k
 ·rw [if_pos e,if_pos e];rfl
 ·rw [if_neg e,if_neg e];rfl
theorem Zlp (k:Nat):(0:Int)≤255 / 2 ^ k∧(255:Int) / 2 ^ k≤255:=
 ⟨Int.ediv_nonneg (by omega) (Int.pow_nonneg (by omega)),Int.ediv_le_self _ (by omega)⟩
theorem Zxl (j:Nat):bt 0 j=0:=by simp [bt]
theorem Yfp (x r:Int) (hx:0≤x∧x≤255) (hr:0≤r∧r≤255) (k j:Nat) (hk:k<8) (hj:j<8):
  bt (bits .or .u8 (bits .andNot .u8 x (255 / 2 ^ k)) (bits .and .u8 r (255 / 2 ^ k))) j=if j<k then bt x j else bt r j:=by
 rw [Yjg _ _ (Zft _ _ _) (Zft _ _ _),Yic _ _ hr (Zlp k),Zxm _ _ hx (Zlp k) j hj,Yfo k j hk hj];have h1:=Zqf x j;have h2:=Zqf r j
 by_cases e:j<k
 ·simp [e]
 ·simp only [e,if_false,if_true];rcases h2 with h | h <;> simp [h]
theorem Yib (x b:Int) (hx:0≤x∧x≤255) (hb:b=0∨b=1) (k:Nat) (hk:k<8):
  (0≤x+(b-bt x k) * 2 ^ (7-k)∧x+(b-bt x k) * 2 ^ (7-k)≤255)∧∀j,j<8→bt (x+(b-bt x k) * 2 ^ (7-k)) j=if j=k then b else bt x j:=by
 obtain ⟨n,hn,rfl⟩:=Zed x hx;obtain ⟨c,hc,rfl⟩:∃c:Nat,c<2∧b=c:=⟨b.toNat,by omega,by omega⟩;have h1:∀(q:Nat) j,bt (q:Int) j=((q / 2 ^ (7-j) % 2:Nat):Int):=by intro q j;unfold bt;norm_cast
 have h0:=(show ∀n,n<256→∀c,c<2→∀k,k<8→n / 2 ^ (7-k) % 2 * 2 ^ (7-k)≤n∧n+c * 2 ^ (7-k)-n / 2 ^ (7-k) % 2 * 2 ^ (7-k)≤255∧∀j,j<8→(n+c * 2 ^ (7-k)-n / 2 ^ (7-k) % 2 * 2 ^ (7-k)) / 2 ^ (7-j) % 2=if j=k then c else n / 2 ^ (7-j) % 2 from by decide+kernel) n hn c hc k hk;obtain ⟨h2,h3,h4⟩:=h0;have e:(n:Int)+((c:Int)-bt (n:Int) k) * 2 ^ (7-k)=((n+c * 2 ^ (7-k)-n / 2 ^ (7-k) % 2 * 2 ^ (7-k):Nat):Int):=by
  rw [h1,Int.sub_mul,Int.ofNat_sub (by omega)]
  push_cast
  omega
 rw [e];refine ⟨⟨by omega,by omega⟩,fun j hj=>?_⟩;rw [h1,h4 j hj,h1]
 by_cases q:j=k
 ·rw [if_pos q,if_pos q]
 ·rw [if_neg q,if_neg q]
def ad (x y:Int):Int:=(x+y) % 4294967296
def rot (x n:Int):Int:=bits .or .u32 (x / 2 ^ n.toNat) (x * 2 ^ (32-n).toNat % 4294967296)
def xo (x y:Int):Int:=bits .xor .u32 x y
def sm0 (x:Int):Int:=xo (xo (rot x 7) (rot x 18)) (x / 8)
def sm1 (x:Int):Int:=xo (xo (rot x 17) (rot x 19)) (x / 1024)
def big0 (x:Int):Int:=xo (xo (rot x 2) (rot x 13)) (rot x 22)
def big1 (x:Int):Int:=xo (xo (rot x 6) (rot x 11)) (rot x 25)
def chs (e f g:Int):Int:=xo (bits .and .u32 e f) (bits .and .u32 (bits .xor .u32 4294967295 e) g)
def maj (a b c:Int):Int:=xo (xo (bits .and .u32 a b) (bits .and .u32 a c)) (bits .and .u32 b c)
def nextWord (b ws:Lq) (k:Nat):Int:=
 if k<16 then b.getD (4 * k) 0 * 16777216+b.getD (4 * k+1) 0 * 65536+b.getD (4 * k+2) 0 * 256+b.getD (4 * k+3) 0
 else ad (ad (ad (sm1 (ws.getD (k-2) 0)) (ws.getD (k-7) 0)) (sm0 (ws.getD (k-15) 0))) (ws.getD (k-16) 0)
def sch (b:Lq):Nat→Lq
 | 0=>[]
 | k+1=>sch b k++[nextWord b (sch b k) k]
theorem Zbo (b:Lq):∀k,(sch b k).length=k
 | 0=>rfl
 | k+1=>by simp [sch,Zbo b k]
def ks:Lq:=[1116352408,1899447441,3049323471,3921009573,961987163,1508970993,2453635748,2870763221,3624381080,310598401,607225278,1426881987,1925078388,2162078206,2614888103,3248222580,3835390401,4022224774,264347078,604807628,770255983,1249150122,1555081692,1996064986,2554220882,2821834349,2952996808,3210313671,3336571891,3584528711,113926993,338241895,666307205,773529912,1294757372,1396182291,1695183700,1986661051,2177026350,2456956037,2730485921,2820302411,3259730800,3345764771,3516065817,3600352804,4094571909,275423344,430227734,506948616,659060556,883997877,958139571,1322822218,1537002063,1747873779,1955562222,2024104815,2227730452,2361852424,2428436474,2756734187,3204031479,3329325298]
def hs:Lq:=[1779033703,3144134277,1013904242,2773480762,1359893119,2600822924,528734635,1541459225]
def rnd (k w:Int):Lq→Lq
 | [a,b,c,d,e,f,g,h]=>
  let t1:=ad (ad (ad (ad h (big1 e)) (chs e f g)) k) w
  [ad t1 (ad (big0 a) (maj a b c)),a,b,c,ad d t1,e,f,g]
 | l=>l
def rds (ws v:Lq):Nat→Lq
 | 0=>v
 | k+1=>rnd (ks.getD k 0) (ws.getD k 0) (rds ws v k)
theorem eight {α:Type} (l:List α) (h:l.length=8):∃a b c d e f g i,l=[a,b,c,d,e,f,g,i]:=by
 match l,h with
 | [a,b,c,d,e,f,g,i],_=>exact ⟨a,b,c,d,e,f,g,i,rfl⟩
theorem Zrf (k w:Int) (l:Lq) (h:l.length=8):(rnd k w l).length=8:=by
 obtain ⟨a,b,c,d,e,f,g,i,rfl⟩:=eight l h;rfl
theorem Zgh (ws v:Lq) (h:v.length=8):∀k,(rds ws v k).length=8
 | 0=>h
 | k+1=>Zrf _ _ _ (Zgh ws v h k)
def stp (h b:Lq):Lq:=List.zipWith ad h (rds (sch b 64) h 64)
theorem Zep (h b:Lq) (hl:h.length=8):(stp h b).length=8:=by
 simp [stp,Zgh _ _ hl,hl]
def eat (l:Lq):Nat→Lq
 | 0=>hs
 | n+1=>stp (eat l n) ((l.drop (64 * n)).take 64)
theorem Zgk (l:Lq):∀n,(eat l n).length=8
 | 0=>rfl
 | n+1=>Zep _ _ (Zgk l n)
theorem Zgl (l m:Lq):∀n,64 * n≤l.length→eat (l++m) n=eat l n
 | 0,_=>rfl
 | n+1,h=>by
  simp only [eat];rw [Zgl l m n (by omega),List.drop_append_of_le_length (by omega),List.take_append_of_le_length (by rw [List.length_drop];omega)]
def be8 (n:Int):Nat→Lq
 | 0=>[]
 | k+1=>be8 n k++[n / 2 ^ (8 * (7-k)) % 256]
theorem Zgm (n:Int):∀k,(be8 n k).length=k
 | 0=>rfl
 | k+1=>by simp [be8,Zgm n k]
def pad (n:Nat):Lq:=128::List.replicate ((119-n % 64) % 64) 0++be8 (8 * n) 8
theorem Zrk (n:Nat):(pad n).length=9+(119-n % 64) % 64:=by
 simp [pad,Zgm];omega
def out (v:Lq):Lq:=v.flatMap fun x=>[x / 16777216 % 256,x / 65536 % 256,x / 256 % 256,x % 256]
theorem Zvf (v:Lq):Bytes (out v):=by
 intro z hz;simp only [out,List.mem_flatMap] at hz;obtain ⟨x,_,hz⟩:=hz;simp at hz;omega
theorem Zeu (v:Lq):(out v).length=4 * v.length:=by
 induction v with
 | nil=>rfl
 | cons a v ih=>
  have:out (a::v)=[a / 16777216 % 256,a / 65536 % 256,a / 256 % 256,a % 256]++out v:=by simp [out]
  rw [this,List.length_append,ih];simp;omega
def dig (l:Lq):Lq:=out (eat (l++pad l.length) ((l.length+(pad l.length).length) / 64))
theorem Zbj (l:Lq):Bytes (dig l):=Zvf _
theorem Zad (l:Lq):(dig l).length=32:=by rw [dig,Zeu,Zgk]
def U (zs:Lq):Array Value:=(zs.map (Value.int .u32)).toArray
theorem Zfu (zs:Lq):(U zs).size=zs.length:=by simp [U]
theorem Yig (zs:Lq) (i:Nat) (h:i<zs.length):(U zs)[i]?=some (.int .u32 (zs.getD i 0)):=by simp [U,List.getD,h]
theorem Zey (zs:Lq):(U zs).toList=zs.map (Value.int .u32):=by simp [U]
theorem Yif (zs:Lq) (i:Nat) (z:Int):(U zs).setIfInBounds i (.int .u32 z)=U (zs.set i z):=by
 apply Array.ext';simp [U,List.map_set]
theorem Zxu (zs:Lq):(U zs).all (·.oneCell')=true:=Array.all_eq_true_iff_forall_mem.2 (fun v hv=>by
 simp only [U,List.mem_toArray,List.mem_map] at hv;obtain ⟨z,_,rfl⟩:=hv;rfl)
theorem Zbt (zs:Lq):(B zs).all (·.oneCell')=true:=Array.all_eq_true_iff_forall_mem.2 (fun v hv=>by
 simp only [B,List.mem_toArray,List.mem_map] at hv;obtain ⟨z,_,rfl⟩:=hv;rfl)
theorem Blk.wcell {t:TypeId} (h:Blk w g t (U zs)) (i:Nat) (hi:i<zs.length):w.cell? ⟨g,i,none⟩=some (.int .u32 (zs.getD i 0)):=by
 rw [h.cell,Yig zs i hi]
theorem Blk.bcell {t:TypeId} (h:Blk w g t (B zs)) (i:Nat) (hi:i<zs.length):w.cell? ⟨g,i,none⟩=some (.int .u8 (zs.getD i 0)):=by
 rw [h.cell,Yby zs i hi]
theorem Zon:∀w,(zeroValue 258).run Tryz.prog w=.ok (.agg (U (List.replicate 64 0))) w:=Tryz.zeroValue258
theorem Zsf:∀w,(zeroValue 248).run Tryz.prog w=.ok (.agg (U (List.replicate 8 0))) w:=Tryz.zeroValue248
theorem Zfg:∀w,(zeroValue 42).run Tryz.prog w=.ok (.agg (B (List.replicate 32 0))) w:=Tryz.zeroValue42
theorem Blk.eight {t:TypeId} {a b c d e f k l:Int} (h:Blk w g t (U [a,b,c,d,e,f,k,l])):
  w.cell? ⟨g,0,none⟩=some (.int .u32 a)∧w.cell? ⟨g,1,none⟩=some (.int .u32 b)∧w.cell? ⟨g,2,none⟩=some (.int .u32 c)∧w.cell? ⟨g,3,none⟩=some (.int .u32 d)∧w.cell? ⟨g,4,none⟩=some (.int .u32 e)∧w.cell? ⟨g,5,none⟩=some (.int .u32 f)∧w.cell? ⟨g,6,none⟩=some (.int .u32 k)∧w.cell? ⟨g,7,none⟩=some (.int .u32 l):=
 ⟨h.wcell 0 (by simp),h.wcell 1 (by simp),h.wcell 2 (by simp),h.wcell 3 (by simp),h.wcell 4 (by simp),h.wcell 5 (by simp),h.wcell 6 (by simp),h.wcell 7 (by simp)⟩
theorem Zps (v:Lq) (k:Nat) (hv:v.length=8) (hk:k<8) (w:World):(Instr.index 248 (.agg (U v)) (.int .i64 (k:Int))).run Tryz.prog w=.ok (.int .u32 (v.getD k 0)) w:=by
 have hg:=Yig v k (by omega);simp [Instr.index,asIntOf,part,hg];omega
theorem Zka:(Tryz.prog.info? 258).map (·.size)=some 64:=by kernel_rfl
theorem Zci:(Tryz.prog.info? 248).map (·.size)=some 8:=by kernel_rfl
theorem Zkb:(Tryz.prog.info? 249).map (·.size)=some 64:=by kernel_rfl
theorem Zbv:(Tryz.prog.info? 42).map (·.size)=some 32:=by kernel_rfl
end Go.Proofs.YtlclabbnpjobgaaGreatDoor
