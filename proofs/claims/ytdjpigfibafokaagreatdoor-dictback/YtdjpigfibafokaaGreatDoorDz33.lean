/- batch.tooLong and batch.refusal, as contracts. -/
import Derived.Test.YtdjpigfibafokaaGreatDoorDz01
import Derived.Test.YtdjpigfibafokaaGreatDoorDz31
import Derived.Test.YtdjpigfibafokaaGreatDoorDz32
import Derived.Test.YtdjpigfibafokaaGreatDoorDz21
import Derived.Test.YtdjpigfibafokaaGreatDoorDz30
import Derived.Test.YtdjpigfibafokaaGreatDoorDz26
import Derived.Test.YtdjpigfibafokaaGreatDoorDz28
namespace Go.Proofs.YtdjpigfibafokaaGreatDoor
variable {E:List Ent}
variable {S fr fr' fr1:List Nat}
variable {cs cs' cs0 cs1:Lz}
variable {d g gs h i j n r room:Nat}
variable {lv:Value}
variable {q:Int}
variable {w w0:World}
set_option maxHeartbeats 4000000
set_option maxRecDepth 20000
open Go.RowKit

def tooL (x:Wt):Bool:=!x.g && decide (1024<x.b.length)

theorem tooL_any (x:Wt) (ok:WtOk x) (w:World):Kc 243 #[.agg (encW x).toArray] w fun e w'=>e=.returned (.bool (tooL x))∧Kb w w':=by
  obtain ⟨va,vc,hv⟩:=ok.hv;have HG:Hid (∀(w':World) (b:Nat),Blk w' b 198 (encW x).toArray→w'.cell? ⟨b,32,none⟩=some (.bool x.g)∧w'.cell? ⟨b,33,none⟩=some (.slice va x.b.length vc)):=fun w' b hb=>by
    have hr:w'.rangeAt b 0 (encW x):=by have:=hb.range;simpa using this
    have h1:=encW_gone hr ok.hk.1;have h2:=encW_val hr ok.hk.1;rw [hv] at h2;exact ⟨by simpa using h1,by simpa using h2⟩
  cases hg:x.g with
  | true=>
    have e:tooL x=false:=by simp [tooL,hg]
    rw [e];rw [hg] at HG;generalize (encW x).toArray=X at HG ⊢;clear ok hv hg e;go_enter Tryz.func243,Tryz.ntmps243
    go_wp2_with ((with_reducible refine at_bxd 1 ?_);refine wpList_bx _ rfl _ _ rfl _ rfl ?_;intro w1 b1 hg1 hl1 B1 q1;have HQ1:=hidden q1;obtain ⟨c32,c33⟩:=HG.out _ _ B1;clear hg1 hl1 B1 q1)
    go_ret;exact ⟨rfl,HQ1.out⟩
  | false=>
    rw [hg] at HG;have e:tooL x=decide (1024<x.b.length):=by simp [tooL,hg]
    rw [e];generalize (encW x).toArray=X at HG ⊢;generalize x.b.length=n at HG e ⊢;clear ok hv hg e
    by_cases h:1024<n
    · have h1:(1024:Int)<(n:Int):=by omega
      rw [decide_eq_true h];clear h;go_enter Tryz.func243,Tryz.ntmps243
      go_wp2_with ((with_reducible refine at_bxd 1 ?_);refine wpList_bx _ rfl _ _ rfl _ rfl ?_;intro w1 b1 hg1 hl1 B1 q1;have HQ1:=hidden q1;obtain ⟨c32,c33⟩:=HG.out _ _ B1;clear hg1 hl1 B1 q1)
      go_ret;exact ⟨rfl,HQ1.out⟩
    · have h1: ¬(1024:Int)<(n:Int):=by omega
      rw [decide_eq_false h];clear h;go_enter Tryz.func243,Tryz.ntmps243
      go_wp2_with ((with_reducible refine at_bxd 1 ?_);refine wpList_bx _ rfl _ _ rfl _ rfl ?_;intro w1 b1 hg1 hl1 B1 q1;have HQ1:=hidden q1;obtain ⟨c32,c33⟩:=HG.out _ _ B1;clear hg1 hl1 B1 q1)
      go_ret;exact ⟨rfl,HQ1.out⟩

theorem tidx_any (v:Value) (l:List Wt) (w:World) (h:WrAt w v l) (hn:l.length≤65536):Kc 274 #[v,.func (.func 243) #[] #[]] w fun e w'=>∃i:Int,e=.returned (.int .i64 i)∧(0≤i↔l.any tooL=true)∧Kb w w':=by
  have HT:Hid (∀x∈l,∀w',Kc 243 #[.agg (encW x).toArray] w' fun e w''=>e=.returned (.bool (tooL x))∧Below w'.heap.size w' w''):=fun x hx w'=>tooL_any x (h.ok x hx) w'
  have HW:=hidden h;obtain ⟨a,c,rfl,_⟩:=id h;obtain ⟨n,hnn⟩:∃n,n=l.length:=⟨_,rfl⟩;have HAt:Hid (∀w' k,Kb w w'→k<n→∃(g off:Nat) (x:Wt),a=some ⟨g,off,none⟩∧l[k]?=some x∧WtOk x∧w'.rangeAt g (off+k * 34) (encW x)):=fun w' k hb hk=>by
    rw [hnn] at hk;obtain ⟨a',cap,e,_,_,h3,h4,_⟩:=HW.out.grow hb;injection e with e1 _ _;obtain ⟨g,off,ea,hr⟩:=h3 (by omega);have:=hr k hk;rw [getElem!_pos l k hk] at this;exact ⟨g,off,l[k],e1.trans ea,List.getElem?_eq_getElem hk,h4 _ (List.getElem_mem hk),this⟩
  have HN:Hid (n≤65536):=by rw [hnn];exact hn
  have HNO:Hid (∀k,k=n→(∀j x,j<k→l[j]?=some x→tooL x=false)→((0:Int)≤ -1↔l.any tooL=true)):=fun k hk hf=>by
    constructor
    · intro q
      omega
    · intro q
      obtain ⟨x,hx,ht⟩:=List.any_eq_true.1 q;obtain ⟨j,hj,rfl⟩:=List.mem_iff_getElem.1 hx;have:=hf j l[j] (by omega) (List.getElem?_eq_getElem hj);rw [this] at ht;cases ht
  have HYES:Hid (∀(k:Nat) x,l[k]?=some x→tooL x=true→((0:Int)≤(k:Int)↔l.any tooL=true)):=fun k x hx ht=>⟨fun _=>List.any_eq_true.2 ⟨x,List.mem_of_getElem? hx,ht⟩,fun _=>by omega⟩
  generalize l.any tooL=t0 at HNO HYES ⊢;rw [← hnn];clear h HW hn hnn;go_enter Tryz.func274,Tryz.ntmps274
  go_wp2_with fail
  go_loopw [8] (fun iv wr=>∃(k:Nat),k≤n∧iv=.int .i64 (k:Int)∧Hid (∀j x,j<k→l[j]?=some x→tooL x=false)∧Hid (Kb w wr)) (fun iv _=>n-(intOf iv).toNat)
  case atStart=>exact ⟨0,by omega,rfl,fun j x hj=>by omega,Below.refl _ _⟩
  case round=>
    obtain ⟨k,hk,rfl,HF,HB⟩:=hrel
    by_cases hlt:k<n
    · obtain ⟨g,off,x,rfl,hx,ok,hr⟩:=HAt.out wr k HB.out hlt
      have HX:=hidden hx;have HRG:=hidden hr;have k0:(0:Int)≤(k:Int):=by omega
      have k1:(k:Int)<(n:Int):=by omega
      have hk6:k<65536:=by have:=HN.out;omega
      have hwk:wrap64 ((k:Int)+1)=((k+1:Nat):Int):=by rw [Go.IntWalk.wrap64_in _ (by omega)];rfl
      have HSZ:Hid ((Tryz.prog.info? 198).map (·.size)=some (encW x).length):=by show _=_;rw [ok.len];exact size_write
      obtain ⟨fs,hfs⟩:=u_write;have HFS:=hidden hfs;have HC:=hidden (HT.out x (List.mem_of_getElem? hx) wr);have HNXT:Hid (tooL x=false→∀j x,j<k+1→l[j]?=some x→tooL x=false):=fun ht j y hj hy=>by
        by_cases e:j=k
        · subst e
          rw [hx] at hy;injection hy with hy;rw [← hy];exact ht
        · exact HF.out j y (by omega) hy
      have HY:=hidden (HYES.out k x hx);generalize encW x=X at HRG HSZ HC;generalize tooL x=t at HC HNXT HY;clear hx ok hr hfs HX HT HAt HF HYES HNO;cases t with
      | true=>
        have HY2:=hidden (HY.out rfl);clear HY HNXT
        go_wp2_with (first
          |((with_reducible refine at_ldd 15 14 ?_);refine wpList_ldw _ rfl _ _ rfl g (off+k * 34) rfl X _ HRG.out HFS.out rfl HSZ.out ?_)
          |(go_at_call 243;refine HC.out.mono ?_;rintro e w1 ⟨rfl,q1⟩;have HQ1:=hidden q1;clear q1))
        go_ret;exact ⟨_,rfl,HY2.out,grow_trans HB.out HQ1.out⟩
      | false=>
        have HN2:=hidden (HNXT.out rfl);clear HY HNXT
        go_wp2_with (first
          |((with_reducible refine at_ldd 15 14 ?_);refine wpList_ldw _ rfl _ _ rfl g (off+k * 34) rfl X _ HRG.out HFS.out rfl HSZ.out ?_)
          |(go_at_call 243;refine HC.out.mono ?_;rintro e w1 ⟨rfl,q1⟩;have HQ1:=hidden q1;clear q1))
        exact ⟨⟨k+1,by omega,by go_num,HN2.out,grow_trans HB.out HQ1.out⟩,by simp [intOf];exact mea_step k1⟩
    · obtain rfl:k=n:=by omega
      have nlt: ¬(k:Int)<(k:Int):=by omega
      have HE:=hidden (HNO.out k rfl HF.out);clear HNO HYES HF HT HAt hlt hk
      go_wp2_with fail
      go_ret;exact ⟨_,rfl,HE.out,HB.out⟩

theorem tany_any (v:Value) (l:List Wt) (w:World) (h:WrAt w v l) (hn:l.length≤65536):Kc 242 #[v,.func (.func 243) #[] #[]] w fun e w'=>e=.returned (.bool (l.any tooL))∧Kb w w':=by
  have HC:=hidden (tidx_any v l w h hn);generalize l.any tooL=t at HC ⊢;clear h hn;cases t with
  | true=>
    go_enter Tryz.func242,Tryz.ntmps242
    go_wp2_with (go_at_call 274;refine HC.out.mono ?_;rintro e w1 ⟨i,rfl,hi,q1⟩;have HQ1:=hidden q1;have i0:=hi.2 rfl;clear q1 hi HC)
    go_ret;exact ⟨rfl,HQ1.out⟩
  | false=>
    go_enter Tryz.func242,Tryz.ntmps242
    go_wp2_with (go_at_call 274;refine HC.out.mono ?_;rintro e w1 ⟨i,rfl,hi,q1⟩;have HQ1:=hidden q1;have i0: ¬0≤i:=fun q=>(by have:=hi.1 q;cases this);have i1:i<0:=(by omega);have i2:decide (0≤i)=false:=decide_eq_false i0;clear q1 hi HC)
    go_ret;exact ⟨rfl,HQ1.out⟩

def bRf (n room:Nat) (ah:Int) (l:List Wt) (k:Nat):Int:=if 64<l.length∨l.any tooL=true then 4 else if ah≠0 then ah else if fitsN n room (k:Int)=true then 0 else 9

theorem bref_any (H:Hs w0 S w g gs room cs fr) (h:Int) (v:Value) (l:List Wt) (hv:WrAt w v l) (hn:l.length≤65536):Kc 195 #[.pointer (some ⟨g,0,none⟩),.int .i64 h,v] w fun e w'=>∃k:Nat,e=.returned (.int .i64 (bRf (noc cs) room (vAh true (cot cs h) (cat cs h) h) l k))∧(64<l.length∨l.any tooL=true∨vAh true (cot cs h) (cat cs h) h≠0∨∃ks,Lat l ks∧ks.length=k)∧Kb w w':=by
  have HR:=hidden (root_any H.vw 0);rw [show vRt true (cot cs 0) (cat cs 0) 0=0 from rfl] at HR;have HA:Hid (Kr w 160 #[.pointer (some ⟨g,0,none⟩),.int .i64 h] (.int .i64 (vAh true (cot cs h) (cat cs h) h))):=fun w' hb=>athand_any (H.vw.grow hb) h
  have HF:Hid (∀w' (j:Int),Kb w w'→Kc 156 #[.pointer (some ⟨g,0,none⟩),.int .i64 j] w' fun e w''=>e=.returned (.bool (fitsN (noc cs) room j))∧Below w'.heap.size w' w''):=fun w' j hb=>fits9_any (H.grow hb) j
  have HK:Hid (∀w',Kb w w'→Kc 219 #[v] w' fun e w''=>∃ks,Lat l ks∧e=.returned (.int .i64 (ks.length:Int))∧Below w'.heap.size w' w''):=fun w' hb=>(keys_any v l w' (hv.grow hb) hn).mono fun e w'' ⟨ks,q1,_,q3,q4⟩=>⟨ks,q1,q3,q4⟩
  have HT:Hid (Kr w 242 #[v,.func (.func 243) #[] #[]] (.bool (l.any tooL))):=fun w' hb=>tany_any v l w' (hv.grow hb) hn
  have HONE:Hid (∀a b,Lat l a→Lat l b→a=b):=fun a b q1 q2=>q1.one q2
  unfold bRf;obtain ⟨a,c,rfl,_⟩:=id hv;generalize vAh true (cot cs h) (cat cs h) h=r at HA ⊢;generalize hln:l.length=n at *;generalize l.any tooL=t at HT ⊢;clear H hv
  by_cases h1:64<n
  · have n1:(64:Int)<(n:Int):=by omega
    refine (show Kc 195 #[.pointer (some ⟨g,0,none⟩),.int .i64 h,.slice a n c] w fun e w'=>e=.returned (.int .i64 4)∧Kb w w' from ?_).mono fun e w' ⟨q1,q2⟩=>⟨0,by rw [if_pos (.inl h1)];exact q1,.inl h1,q2⟩
    clear h1 HA HF HK HT HONE;go_enter Tryz.func195,Tryz.ntmps195
    go_wp2_with (go_at_call 112;refine HR.out.mono ?_;rintro e w1 ⟨rfl,b1⟩;have HB1:=hidden b1;clear b1)
    go_ret;exact ⟨rfl,HB1.out⟩
  · have n1: ¬(64:Int)<(n:Int):=by omega
    cases t with
    | true=>
      refine (show Kc 195 #[.pointer (some ⟨g,0,none⟩),.int .i64 h,.slice a n c] w fun e w'=>e=.returned (.int .i64 4)∧Kb w w' from ?_).mono fun e w' ⟨q1,q2⟩=>⟨0,by rw [if_pos (.inr rfl)];exact q1,.inr (.inl rfl),q2⟩
      clear h1 HA HF HK HONE;go_enter Tryz.func195,Tryz.ntmps195
      go_wp2_with (first
        |(go_at_call 112;refine HR.out.mono ?_;rintro e w1 ⟨rfl,b1⟩;have HB1:=hidden b1;clear b1)
        |(go_at_call 242;refine (HT.out _ HB1.out).mono ?_;rintro e w2 ⟨rfl,b2⟩;have HB2:=hidden (grow_trans HB1.out b2);clear b2))
      go_ret;exact ⟨rfl,HB2.out⟩
    | false=>
      have hneg: ¬(64<n∨false=true):=fun q=>q.elim h1 (fun q=>by cases q)
      by_cases h2:r=0
      · subst h2
        by_cases hfit:∃ks,Lat l ks∧fitsN (noc cs) room (ks.length:Int)=true
        · obtain ⟨k0,hk0,hf0⟩:=hfit
          have HK2:Hid (Kr w 219 #[.slice a n c] (.int .i64 (k0.length:Int))):=fun w' hb=>(HK.out w' hb).mono fun e w'' ⟨ks,q1,q2,q3⟩=>⟨by rw [q2,HONE.out ks k0 q1 hk0],q3⟩
          have HF2:Hid (Kr w 156 #[.pointer (some ⟨g,0,none⟩),.int .i64 (k0.length:Int)] (.bool true)):=fun w' hb=>by rw [← hf0];exact HF.out w' _ hb
          refine (show Kc 195 #[.pointer (some ⟨g,0,none⟩),.int .i64 h,.slice a n c] w fun e w'=>e=.returned (.int .i64 0)∧Kb w w' from ?_).mono fun e w' ⟨q1,q2⟩=>⟨k0.length,by rw [if_neg hneg,if_neg (fun q=>q rfl),if_pos hf0];exact q1,.inr (.inr (.inr ⟨k0,hk0,rfl⟩)),q2⟩
          generalize (k0.length:Int)=j at HK2 HF2;clear h1 HK HF HONE hk0 hf0 hneg;go_enter Tryz.func195,Tryz.ntmps195
          go_wp2_with (first
          |(go_at_call 112;refine HR.out.mono ?_;rintro e w1 ⟨rfl,b1⟩;have HB1:=hidden b1;clear b1)
          |(go_at_call 242;refine (HT.out _ HB1.out).mono ?_;rintro e w2 ⟨rfl,b2⟩;have HB2:=hidden (grow_trans HB1.out b2);clear b2)
          |(go_at_call 160;refine (HA.out _ HB2.out).mono ?_;rintro e w3 ⟨rfl,b3⟩;have HB3:=hidden (grow_trans HB2.out b3);clear b3)
            |(go_at_call 219;refine (HK2.out _ HB3.out).mono ?_;rintro e w4 ⟨rfl,b4⟩;have HB4:=hidden (grow_trans HB3.out b4);clear b4)
            |(go_at_call 156;refine (HF2.out _ HB4.out).mono ?_;rintro e w5 ⟨rfl,b5⟩;have HB5:=hidden (grow_trans HB4.out b5);clear b5))
          go_ret;exact ⟨rfl,HB5.out⟩
        · have HF2:Hid (∀w' ks,Lat l ks→Kb w w'→Kc 156 #[.pointer (some ⟨g,0,none⟩),.int .i64 (ks.length:Int)] w' fun e w''=>e=.returned (.bool false)∧Below w'.heap.size w' w''):=fun w' ks hks hb=>by
            rw [← show fitsN (noc cs) room (ks.length:Int)=false from by
              cases hh:fitsN (noc cs) room (ks.length:Int) with
              | true=>exact absurd ⟨ks,hks,hh⟩ hfit
              | false=>rfl]
            exact HF.out w' _ hb
          refine (show Kc 195 #[.pointer (some ⟨g,0,none⟩),.int .i64 h,.slice a n c] w fun e w'=>∃ks,Lat l ks∧e=.returned (.int .i64 9)∧Kb w w' from ?_).mono fun e w' ⟨k0,hk0,q1,q2⟩=>⟨k0.length,by rw [if_neg hneg,if_neg (fun q=>q rfl),if_neg (fun q=>hfit ⟨k0,hk0,q⟩)];exact q1,.inr (.inr (.inr ⟨k0,hk0,rfl⟩)),q2⟩
          clear h1 HF hfit hneg;go_enter Tryz.func195,Tryz.ntmps195
          go_wp2_with (first
          |(go_at_call 112;refine HR.out.mono ?_;rintro e w1 ⟨rfl,b1⟩;have HB1:=hidden b1;clear b1)
          |(go_at_call 242;refine (HT.out _ HB1.out).mono ?_;rintro e w2 ⟨rfl,b2⟩;have HB2:=hidden (grow_trans HB1.out b2);clear b2)
          |(go_at_call 160;refine (HA.out _ HB2.out).mono ?_;rintro e w3 ⟨rfl,b3⟩;have HB3:=hidden (grow_trans HB2.out b3);clear b3)
            |(go_at_call 219;refine (HK.out _ HB3.out).mono ?_;rintro e w4 ⟨ks,hks,rfl,b4⟩;have HKS:=hidden hks;have HB4:=hidden (grow_trans HB3.out b4);clear b4 hks)
            |(go_at_call 156;refine (HF2.out _ _ HKS.out HB4.out).mono ?_;rintro e w5 ⟨rfl,b5⟩;have HB5:=hidden (grow_trans HB4.out b5);clear b5))
          go_ret;exact ⟨_,HKS.out,rfl,HB5.out⟩
      · have h3:(r == 0)=false:=by simpa using h2
        refine (show Kc 195 #[.pointer (some ⟨g,0,none⟩),.int .i64 h,.slice a n c] w fun e w'=>e=.returned (.int .i64 r)∧Kb w w' from ?_).mono fun e w' ⟨q1,q2⟩=>⟨0,by rw [if_neg hneg,if_pos h2];exact q1,.inr (.inr (.inl h2)),q2⟩
        clear h1 HF HK HONE hneg;go_enter Tryz.func195,Tryz.ntmps195
        go_wp2_with (first
          |(go_at_call 112;refine HR.out.mono ?_;rintro e w1 ⟨rfl,b1⟩;have HB1:=hidden b1;clear b1)
          |(go_at_call 242;refine (HT.out _ HB1.out).mono ?_;rintro e w2 ⟨rfl,b2⟩;have HB2:=hidden (grow_trans HB1.out b2);clear b2)
          |(go_at_call 160;refine (HA.out _ HB2.out).mono ?_;rintro e w3 ⟨rfl,b3⟩;have HB3:=hidden (grow_trans HB2.out b3);clear b3))
        go_ret;exact ⟨rfl,HB3.out⟩

end Go.Proofs.YtdjpigfibafokaaGreatDoor

namespace Go.Proofs.YtdjpigfibafokaaGreatDoor
variable {E:List Ent}
variable {S fr fr' fr1:List Nat}
variable {cs cs' cs0 cs1:Lz}
variable {d g gs h i j n r room:Nat}
variable {lv:Value}
variable {q:Int}
variable {w w0:World}
set_option maxHeartbeats 4000000
set_option maxRecDepth 20000
open Go.RowKit

def Rw.wt (x:Rw):Wt:=⟨x.k,x.g,x.b,x.v⟩
theorem tooR_wt (x:Rw):tooL x.wt=tooR x:=rfl

theorem rwt_ok {x:Rw} (hk:x.k.length=32) (h1:Reads w x.kv x.k) (h2:Reads w x.v x.b):WtOk x.wt:=by
  have hbk:Bytes x.k:=by obtain ⟨_,_,_,_,_,hb,_⟩:=h1;exact hb
  have hbb:Bytes x.b:=by obtain ⟨_,_,_,_,_,hb,_⟩:=h2;exact hb
  exact ⟨⟨hk,hbk⟩,hbb,(reads_len h2)⟩

theorem writes_any {l:List Rw} (hl:RwAt w lv l) (hbd:l.length≤65536) (h32:∀x∈l,x.k.length=32):Kc 118 #[lv] w fun e w'=>∃v,e=.returned v∧WrAt w' v (l.map Rw.wt)∧Kb w w':=by
  obtain ⟨a,cap,rfl,hc,hrow,hrd⟩:=hl;obtain ⟨n,hn⟩:∃n,n=l.length:=⟨_,rfl⟩;rw [← hn] at hc hbd ⊢;have HI:Hid (∀i,i<n→∃g off,a=some ⟨g,off,none⟩∧w.rangeAt g (off+i * 3) (l[i]!).cells∧Reads w (l[i]!).kv (l[i]!).k∧Reads w (l[i]!).v (l[i]!).b∧(l[i]!).k.length=32):=fun i hi=>by
    obtain ⟨g,off,e,h⟩:=hrow (by omega);have hm:l[i]!∈l:=by rw [getElem!_pos l i (by omega)];exact List.getElem_mem _
    exact ⟨g,off,e,h i (by omega),(hrd _ hm).1,(hrd _ hm).2,h32 _ hm⟩
  have HT:Hid (∀i,i<n→(l.take (i+1)).map Rw.wt=(l.take i).map Rw.wt++[(l[i]!).wt]):=fun i hi=>by
    rw [List.take_add_one,List.map_append,getElem!_pos l i (by omega),List.getElem?_eq_getElem (by omega)];rfl
  have HEnd:Hid (∀w' v,AccW w w' v n (flatE encW ((l.take n).map Rw.wt))→WrAt w' v (l.map Rw.wt)):=fun w' v h=>by
    rw [hn,List.take_length] at h;refine wrAt_own (by rw [List.length_map];exact h.own) (fun x hx=>?_) (fun x hx=>?_)
    · obtain ⟨y,hy,rfl⟩:=List.mem_map.1 hx
      exact rwt_ok (h32 y hy) (hrd y hy).1 (hrd y hy).2
    · obtain ⟨y,hy,rfl⟩:=List.mem_map.1 hx
      exact (hrd y hy).2.grow h.bel
  clear hrow hrd h32 hn;go_enter Tryz.func118,Tryz.ntmps118
  go_wp2_with fail
  go_loopw [3,10] (fun av iv wr=>∃i:Nat,i≤n∧iv=.int .i64 (i:Int)∧Hid (AccW w wr av i (flatE encW ((l.take i).map Rw.wt)))) (fun _ iv _=>n-(intOf iv).toNat)
  case atStart=>exact ⟨0,by omega,rfl,AccW.nil w⟩
  case round=>
    obtain ⟨i,hi,rfl,hacc⟩:=hrel;have HAC:=hidden hacc.out;obtain ⟨aa,ac,rfl⟩:=lst_slice hacc.out.own
    by_cases hin:i<n
    · have q1:(i:Int)<(n:Int):=by omega
      have q0:(0:Int)≤(i:Int):=by omega
      obtain ⟨g,off,rfl,hrg,hre,hrv,hk32⟩:=HI.out i hin;have HRG:=hidden (rng_grow hrg HAC.out.bel);have HO:Hid (Kr w 88 #[(l[i]!).kv] (.tuple #[.agg (B (l[i]!).k),.int .i64 0])):=fun w' hb'=>of_at _ _ w' (hre.grow hb') hk32
      have HOK:=hidden (rwt_ok hk32 hre hrv);have HRV:Hid (∀w',Kb w w'→Reads w' (l[i]!).v (l[i]!).b):=fun w' h=>hrv.grow h
      have HN:=HT.out i hin;obtain ⟨ka,kc,hkv⟩:=reads_len hre;obtain ⟨va,vc,hvv⟩:=reads_len hrv;have HS:=hidden (sz_path3 _ hk32);have HBU:Hid (Tryz.prog.built 198 [(0,.agg (B (l[i]!).k)),(1,.bool (l[i]!).g),(2,.slice va (l[i]!).b.length vc)]=some (encW ⟨(l[i]!).k,(l[i]!).g,(l[i]!).b,.slice va (l[i]!).b.length vc⟩).toArray):=built_wkgv _ _ _ _ _ _ hk32;have HL34:Hid ((encW (l[i]!).wt).length=34):=HOK.out.len;clear hrg hre hrv HI HT hk32 hacc;generalize l[i]! =x at *;obtain ⟨kv,k,gn,b,v⟩:=x;unfold Rw.cells at HRG;unfold Rw.wt at HOK HL34;dsimp only at hkv hvv HRG HO HOK HRV HS HBU HL34;subst hkv hvv;obtain ⟨kl,hkl⟩:∃kl,kl=k.length:=⟨_,rfl⟩;obtain ⟨bl,hbl⟩:∃bl,bl=b.length:=⟨_,rfl⟩;rw [← hkl] at HRG HO;rw [← hbl] at HRG HBU HRV HOK HL34;have HONE:Hid ((#[.slice ka kl kc,.bool gn,.slice va bl vc]:Array Value).all (·.oneCell')=true):=by show _=_;simp [Value.oneCell']
      have HNP:Hid ((l.take (i+1)).map Rw.wt=(l.take i).map Rw.wt++[⟨k,gn,b,.slice va bl vc⟩]):=by show _=_;rw [HN,hbl];rfl
      clear HN;have HSM:Hid (i+1≤65536):=(by show _≤_;omega);clear hkl hbl;generalize (l.take i).map Rw.wt=PF at *;have HFL:Hid (flatE encW (PF++[⟨k,gn,b,.slice va bl vc⟩])=flatE encW PF++flatE encW [⟨k,gn,b,.slice va bl vc⟩]):=flatE_app _ _;generalize flatE encW PF=FP at *
      go_wp2_with (first
        |((with_reducible refine at_ldd 13 12 ?_);refine wpList_ldw _ rfl _ _ rfl g (off+i * 3) rfl [.slice ka kl kc,.bool gn,.slice va bl vc] _ HRG.out Tryz.underlying163 rfl size_raw ?_)
        |((with_reducible refine at_ald 5 ?_);refine wpList_al _ rfl _ rfl _ zero_raw ?_;intro w1 g5 hg5 hl5 B5 b5;have HG5:=hidden hg5;have HB5:=hidden B5;have Hb5:=hidden b5;clear hg5 hl5 B5 b5)
        |((with_reducible refine at_st 5 ?_);refine wpList_sto _ rfl _ _ _ rfl g5 _ #[.slice ka kl kc,.bool gn,.slice va bl vc] rfl rfl HB5.out size_raw rfl HONE.out ?_;intro w2 B5' r5;have cc0:w2.cell? ⟨g5,0,none⟩=some (.slice ka kl kc):=(by rw [Blk.cell B5'];rfl);have K5:=hidden B5'.kp;replace HAC:=hidden (HAC.out.grow (below_row Hb5.out r5 HG5.out));clear r5 B5' HB5 HG5 Hb5)
        |(go_at_call 88;refine (HO.out _ HAC.out.bel).mono ?_;rintro e w3 ⟨rfl,b3⟩;replace K5:=hidden (K5.out.step b3);replace HAC:=hidden (HAC.out.grow b3);clear b3)
        |((with_reducible refine at_ald 6 ?_);refine wpList_al _ rfl _ rfl _ zero_path ?_;intro w4 g6 hg6 hl6 B6 b6;have HG6:=hidden hg6;have HB6:=hidden B6;have Hb6:=hidden b6;clear hg6 hl6 B6 b6)
        |((with_reducible refine at_st 6 ?_);refine wpList_sto _ rfl _ _ _ rfl g6 _ (B k) rfl rfl HB6.out HS.out.1 HS.out.2 (B_one _) ?_;intro w5 B6' r6;have hbb:=below_row Hb6.out r6 HG6.out;replace K5:=hidden (K5.out.step hbb);replace HAC:=hidden (HAC.out.grow hbb);have K6:=hidden B6'.kp;have cc1:w5.cell? ⟨g5,1,none⟩=some (.bool gn):=(by rw [Blk.cell K5.out.now];rfl);have cc2:w5.cell? ⟨g5,2,none⟩=some (.slice va bl vc):=(by rw [Blk.cell K5.out.now];rfl);clear r6 B6' hbb HB6 HG6 Hb6)
        |((with_reducible refine at_ldd 21 6 ?_);refine wpList_ld _ rfl _ _ rfl g6 _ rfl K6.out.now _ _ Tryz.underlying63 HS.out.1 ?_)
        |((with_reducible refine at_bdd 26 ?_);refine wpList_bld _ rfl _ _ rfl _ (by rw [List.map_toArray];exact HBU.out) ?_)
        |(refine wpList_bsw _ rfl _ rfl ⟨k,gn,b,.slice va bl vc⟩ rfl HL34.out ?_;intro w7 g7 hg7 B7 b7;replace HAC:=hidden (HAC.out.grow b7);have HW1:=hidden (wrAt_blk B7 HOK.out (HRV.out _ HAC.out.bel));clear hg7 B7 b7 cc1 cc2)
        |(at_builtin;refine wpList_appWs _ rfl _ _ rfl _ _ i _ [⟨k,gn,b,.slice va bl vc⟩] rfl rfl HAC.out.own HW1.out HSM.out ?_;intro u1 w8 k1 k2 k3;have HA2:=hidden (HAC.out.app k1 k2 k3);obtain ⟨ua,uc,rfl⟩:=lst_slice k1;clear k1 k2 k3))
      exact ⟨⟨i+1,by omega,by go_num,by
        show AccW _ _ _ _ _;rw [HNP.out,HFL.out];exact HA2.out⟩,by simp [intOf];omega⟩
    · have q1: ¬(i:Int)<(n:Int):=by omega
      obtain rfl:i=n:=by omega
      go_wp2_with fail
      go_ret;exact ⟨_,rfl,HEnd.out _ _ HAC.out,HAC.out.bel⟩

end Go.Proofs.YtdjpigfibafokaaGreatDoor

namespace Go.Proofs.YtdjpigfibafokaaGreatDoor
variable {E:List Ent}
variable {S fr fr' fr1:List Nat}
variable {cs cs' cs0 cs1:Lz}
variable {d g gs h i j n r room:Nat}
variable {lv:Value}
variable {q:Int}
variable {w w0:World}
set_option maxHeartbeats 4000000
set_option maxRecDepth 20000
open Go.RowKit

structure Bst where
  cs:Lz
  fr:List Nat
  ms:List Nat
def hdl (ms:List Nat) (p:Int):Nat:=if p<0 then ms.getD (-p-1).toNat 0 else p.toNat
theorem hdl_nat (ms:List Nat) (h:Nat):hdl ms (h:Int)=h:=by rw [hdl,if_neg (by omega)];omega
theorem hdl_neg (ms:List Nat) (i:Nat):hdl ms (-((i:Int)+1))=ms.getD i 0:=by rw [hdl,if_pos (by omega)];congr 1;omega
theorem hdl_more {ms:List Nat} (t:List Nat) {p:Int} (h: -p≤(ms.length:Int)):hdl (ms++t) p=hdl ms p:=by
  unfold hdl;split
  · rw [List.getD_eq_getElem?_getD,List.getElem?_append_left (by omega),List.getD_eq_getElem?_getD]
  · rfl

def BzS (n:Pn) (s s':Bst):Prop:=
  s'.fr=s.fr.dropLast∧s'.ms=s.ms++[tkH s.cs s.fr]∧
  ((n.inn=false∧∃v',CeOk (lfC (lfD n.w.k (vaD n.w.b)) n.w.k v' n.w.b)∧s'.cs=tkC s.cs s.fr (1,lfC (lfD n.w.k (vaD n.w.b)) n.w.k v' n.w.b))∨
   (n.inn=true∧InnR s.cs s.fr n.dp (hdl s.ms n.l) (hdl s.ms n.r) s'.cs))

inductive Bz (ps:List Pn):Nat→Bst→Nat→Bst→Prop
  | refl (i:Nat) (s:Bst):Bz ps i s i s
  | step {i j:Nat} {s s1 s2:Bst} {n:Pn}:Bz ps i s j s1→ps[j]?=some n→FrOk s1.cs s1.fr→Wf s2.cs []→BzS n s1 s2→Bz ps i s (j+1) s2
theorem Bz.le {ps:List Pn} {s s1:Bst} (h:Bz ps i s j s1):i≤j:=by
  induction h with
  | refl=>exact Nat.le_refl _
  | step _ _ _ _ _ ih=>omega
theorem Bz.same {ps:List Pn} {s s1:Bst} (h:Bz ps i s j s1) (e:i=j):s1=s:=by
  cases h with
  | refl=>rfl
  | step h _ _ _ _=>have:=h.le;omega
theorem Bz.split {ps:List Pn} {s s1:Bst} (h:Bz ps i s j s1) (m:Nat) (h1:i≤m) (h2:m≤j):∃s2,Bz ps i s m s2∧Bz ps m s2 j s1:=by
  induction h with
  | refl s=>
    obtain rfl:m=i:=by omega
    exact ⟨s,.refl _ _,.refl _ _⟩
  | @step j s s1 s2 n h a b c d ih=>
    by_cases e:m=j+1
    · subst e
      exact ⟨s2,h.step a b c d,.refl _ _⟩
    · obtain ⟨s3,k1,k2⟩:=ih (by omega)
      exact ⟨s3,k1,k2.step a b c d⟩
theorem Bz.last {ps:List Pn} {s s2:Bst} (h:Bz ps i s (j+1) s2) (hi:i≤j):∃s1 n,Bz ps i s j s1∧ps[j]?=some n∧FrOk s1.cs s1.fr∧Wf s2.cs []∧BzS n s1 s2:=by
  cases h with
  | refl=>omega
  | step h a b c d=>exact ⟨_,_,h,a,b,c,d⟩

def Can (s:Bst) (n:Pn):Prop:=(n.inn=false→WtOk0 n.w∧n.w.g=false)∧
  (n.inn=true→n.dp<256∧mayP s.cs (hdl s.ms n.l:Int)∧mayP s.cs (hdl s.ms n.r:Int)∧∃u,(u=true↔Und (sdC s.cs (hdl s.ms n.l)).key (sdC s.cs (hdl s.ms n.r)).key (n.dp:Int))∧fitP n.dp (sdC s.cs (hdl s.ms n.l)) (sdC s.cs (hdl s.ms n.r)) u=true)

structure BzOk (d lo hi:Nat) (q:Int) (G:Gt) (s s':Bst):Prop where
  wf:Wf s'.cs []
  ms:∃t,s'.ms=s.ms++t
  mlen:s'.ms.length=hi
  keep:∀i,0<cc s.cs i→0<cc s'.cs i∧Core (ce s.cs i) (ce s'.cs i)
  cnt:∀i,0<cc s.cs i→cc s'.cs i=cc s.cs i
  tree:∃U,IsT s'.cs (hdl s'.ms q) U∧U.ents=G.ents
  dp:(sdC s'.cs (hdl s'.ms q)).kind=2→(sdC s'.cs (hdl s'.ms q)).dp=d
  own:∀i,own s'.cs [] i+G.olds.count (i+1)=own s.cs [] i+(if hdl s'.ms q=i+1 then 1 else 0)
  noc:noc s'.cs+lo=noc s.cs+hi
  new:q<0→1≤hdl s'.ms q∧cc s.cs (hdl s'.ms q-1)=0
  len:s'.cs.length+lo≤s.cs.length+hi
  part: -q≤(hi:Int)

theorem core_dp (k:h=0∨Core (ce cs (h-1)) (ce cs' (h-1))) (hd:(sdC cs h).kind=2→(sdC cs h).dp=d):(sdC cs' h).kind=2→(sdC cs' h).dp=d:=fun q=>by
  rcases k with rfl | k
  · exact hd q
  · by_cases h0:h=0
    · subst h0
      exact hd q
    · rw [sdC,if_neg h0,k] at q ⊢
      rw [sdC,if_neg h0] at hd;exact hd q

theorem bz_ok {cs0:Lz} {ps:List Pn}:∀(G:Gt) (d lo hi:Nat) (q:Int),IsG cs0 ps lo hi q G→GOk cs0 d G→Com d (G.ents.map (·.1))→∀(s:Bst),Wf s.cs []→(∀i,0<cc cs0 i→0<cc s.cs i∧Core (ce cs0 i) (ce s.cs i))→s.ms.length=lo→(∀i,G.olds.count (i+1)≤own s.cs [] i)→
    (∀j s1,lo≤j→j<hi→Bz ps lo s j s1→∃n,ps[j]?=some n∧Can s1 n∧noc s1.cs+lo=noc s.cs+j∧s1.ms.length=j)∧∀s1,Bz ps lo s hi s1→BzOk d lo hi q G s s1
  | .old h T,d,lo,hi,q,g,ok,_,s,W,kp,ml,av=>by
    obtain ⟨rfl,rfl,t⟩:=g;refine ⟨fun j s1 h1 h2 _=>by omega,fun s1 b=>?_⟩;obtain rfl:=b.same rfl;have e:=hdl_nat s1.ms h;refine ⟨W,⟨[],by simp⟩,ml,fun i hi=>⟨hi,Core.refl _⟩,fun _ _=>rfl,⟨T,by rw [e];exact t.keep kp,rfl⟩,?_,fun i=>?_,rfl,fun q=>by omega,Nat.le_refl _,by omega⟩
    · rw [e]
      refine core_dp ?_ ok;rcases t.occ with q | q
      · exact .inl q
      · exact .inr (kp _ q.2).2
    · rw [e]
      simp only [Gt.olds,List.count_singleton,beq_iff_eq]
  | .lf x,d,lo,hi,q,g,ok,_,s,W,kp,ml,av=>by
    obtain ⟨rfl,rfl,hp⟩:=g;obtain ⟨⟨k1,k2,k3⟩,k4⟩:=ok;refine ⟨fun j s1 h1 h2 b=>?_,fun s1 b=>?_⟩
    · obtain rfl:j=lo:=by omega
      obtain rfl:=b.same rfl;exact ⟨_,hp,⟨fun _=>⟨⟨k1,k2,k3⟩,k4⟩,fun e=>(by cases e)⟩,rfl,ml⟩
    · obtain ⟨s2,n,b1,b2,hF,wf,h1,h2,h3⟩:=b.last (Nat.le_refl _)
      obtain rfl:=b1.same rfl;rw [hp] at b2;injection b2 with b2;subst b2;obtain ⟨_,v',okc,h3⟩:=h3.resolve_right (fun q=>by have:=q.1;cases this);have okc:CeOk (lfC (lfD x.k (vaD x.b)) x.k v' x.b):=okc;have h3:s1.cs=tkC s2.cs s2.fr (1,lfC (lfD x.k (vaD x.b)) x.k v' x.b):=h3;obtain ⟨X,hX⟩:∃X,X=lfC (lfD x.k (vaD x.b)) x.k v' x.b:=⟨_,rfl⟩;rw [← hX] at okc h3;obtain ⟨t1,tk⟩:=tk_of hF (1,X);rw [h3] at wf;have eq:hdl s1.ms (-((lo:Int)+1))=tkH s2.cs s2.fr:=by
        rw [hdl_neg,h2,← ml,List.getD_eq_getElem?_getD,List.getElem?_append_right (Nat.le_refl _)];simp
      have hcn:cc (tkC s2.cs s2.fr (1,X)) (tkH s2.cs s2.fr-1)=1:=by rw [tk.cc,if_pos rfl]
      have hen:ce (tkC s2.cs s2.fr (1,X)) (tkH s2.cs s2.fr-1)=X:=by rw [tk.ce,if_pos rfl]
      have hne:∀i,0<cc s2.cs i→ ¬i=tkH s2.cs s2.fr-1:=fun i hi e=>by
        rw [e,tk.vac] at hi;omega
      refine ⟨by rw [h3];exact wf,⟨_,h2⟩,by rw [h2];simp [ml],fun i hi=>?_,fun i hi=>?_,⟨.lf x.k x.b,?_,rfl⟩,?_,fun i=>?_,?_,fun _=>?_,?_,by omega⟩
      · rw [h3,tk.cc,tk.ce,if_neg (hne i hi),if_neg (hne i hi)]
        exact ⟨hi,Core.refl _⟩
      · rw [h3,tk.cc,if_neg (hne i hi)]
      · rw [eq,h3]
        exact ⟨t1,by rw [hcn];omega,by rw [hen,hX];rfl,by rw [hen,hX];rfl,by rw [hen,hX];rfl⟩
      · rw [eq,h3,sdC,if_neg (by omega),hen,hX]
        exact fun k=>absurd k (by show ¬(1:Int)=2;omega)
      · rw [eq,h3]
        have hle:=W.le i;simp only [Gt.olds,List.count_nil,Nat.add_zero];unfold Go.Proofs.YtdjpigfibafokaaGreatDoor.own;rw [tk.cc,tk.ce]
        by_cases e:i=tkH s2.cs s2.fr-1
        · have v:=tk.vac
          rw [← e] at v;rw [v] at hle ⊢;rw [if_pos e,if_pos e,if_pos (by omega),hX];simp [lfC]
        · rw [if_neg e,if_neg e,if_neg (by omega)]
          rfl
      · rw [h3,noc_tk hF (1,X) (by show 0<1;omega)]
        omega
      · rw [eq]
        exact ⟨t1,tk.vac⟩
      · rw [h3,tk.len]
        have:=tk.le;omega
  | .nd e L R,d,lo,hi,q,g,ok,cm,s,W,kp,ml,av=>by
    obtain ⟨m,n,a,b,rfl,rfl,hp,gL,gR⟩:=g;obtain ⟨rfl,hd,okL,okR,bL,bR,two⟩:=ok;have l1:=gL.le;have l2:=gR.le;have cmL:Com (e+1) (L.ents.map (·.1)):=Com.succ (cm.sub fun x hx=>by
      show x∈(L.ents++R.ents).map _;rw [List.map_append];exact List.mem_append_left _ hx) 0 fun x hx=>by
        obtain ⟨y,hy,rfl⟩:=List.mem_map.1 hx;exact bL y hy
    have cmR:Com (e+1) (R.ents.map (·.1)):=Com.succ (cm.sub fun x hx=>by
      show x∈(L.ents++R.ents).map _;rw [List.map_append];exact List.mem_append_right _ hx) 1 fun x hx=>by
        obtain ⟨y,hy,rfl⟩:=List.mem_map.1 hx;exact bR y hy
    have hol:∀i,(Gt.nd e L R).olds.count (i+1)=L.olds.count (i+1)+R.olds.count (i+1):=fun i=>by simp [Gt.olds]
    obtain ⟨iL1,iL2⟩:=bz_ok L (e+1) lo m a gL okL cmL s W kp ml (fun i=>by have:=av i;rw [hol] at this;omega);have iR:∀s2,Bz ps lo s m s2→BzOk (e+1) lo m a L s s2∧(∀j s1,m≤j→j<n→Bz ps m s2 j s1→∃k,ps[j]?=some k∧Can s1 k∧noc s1.cs+m=noc s2.cs+j∧s1.ms.length=j)∧∀s1,Bz ps m s2 n s1→BzOk (e+1) m n b R s2 s1:=fun s2 b2=>by
      have o:=iL2 s2 b2;refine ⟨o,bz_ok R (e+1) m n b gR okR cmR s2 o.wf (fun i hi=>⟨(o.keep i (kp i hi).1).1,(kp i hi).2.trans (o.keep i (kp i hi).1).2⟩) o.mlen fun i=>?_⟩;have h1:=av i;have h2:=o.own i;rw [hol] at h1;omega
    have fit:∀s3,Bz ps lo s n s3→∃s2,BzOk (e+1) lo m a L s s2∧BzOk (e+1) m n b R s2 s3∧hdl s3.ms a=hdl s2.ms a∧(∀i,own s3.cs [] i+(Gt.nd e L R).olds.count (i+1)=own s.cs [] i+(if hdl s3.ms a=i+1 then 1 else 0)+(if hdl s3.ms b=i+1 then 1 else 0))∧Can s3 (pnI e a b)∧∃U V,IsT s3.cs (hdl s3.ms a) U∧IsT s3.cs (hdl s3.ms b) V∧U.ents=L.ents∧V.ents=R.ents:=fun s3 b3=>by
      obtain ⟨s2,c1,c2⟩:=b3.split m l1 l2;obtain ⟨o1,_,o2⟩:=iR s2 c1;have o2:=o2 s3 c2;obtain ⟨t,ht⟩:=o2.ms;have ha:hdl s3.ms a=hdl s2.ms a:=by
        rw [ht];exact hdl_more t (by rw [o1.mlen];exact o1.part)
      have hown:∀i,own s3.cs [] i+(Gt.nd e L R).olds.count (i+1)=own s.cs [] i+(if hdl s3.ms a=i+1 then 1 else 0)+(if hdl s3.ms b=i+1 then 1 else 0):=fun i=>by
        have h1:=o1.own i;have h2:=o2.own i;rw [hol,ha];omega
      obtain ⟨U,u1,u2⟩:=o1.tree;obtain ⟨V,v1,v2⟩:=o2.tree;have u3:IsT s3.cs (hdl s3.ms a) U:=by rw [ha];exact u1.keep o2.keep
      have kU:(sdC s3.cs (hdl s3.ms a)).kind=2→(sdC s3.cs (hdl s3.ms a)).dp=e+1:=by
        rw [ha];refine core_dp ?_ o1.dp;rcases u1.occ with q | q
        · exact .inl q
        · exact .inr (o2.keep _ q.2).2
      have may:∀h:Nat,(∃c:Nat→Nat,∀i,own s3.cs [] i+(Gt.nd e L R).olds.count (i+1)=own s.cs [] i+(if h=i+1 then 1 else 0)+c i)→mayP s3.cs (h:Int):=fun h ⟨c,hc⟩=>by
        refine may_own ?_
        by_cases h0:h=0
        · exact .inl h0
        · refine .inr ?_
          have h1:=hc (h-1);have h2:=av (h-1);rw [if_pos (by omega)] at h1;omega
      have m1:=may (hdl s3.ms a) ⟨fun i=>if hdl s3.ms b=i+1 then 1 else 0,hown⟩;have m2:=may (hdl s3.ms b) ⟨fun i=>if hdl s3.ms a=i+1 then 1 else 0,fun i=>by have:=hown i;dsimp only;omega⟩;obtain ⟨x,hx⟩:∃x,x∈L.ents++R.ents:=List.exists_mem_of_length_pos (by omega);have hK:∀y∈L.ents++R.ents,∀j,j<e→kb y.1 j=kb x.1 j:=fun y hy j hj=>cm _ (List.mem_map_of_mem hy) _ (List.mem_map_of_mem hx) j hj
      obtain ⟨u,hu,hf⟩:=two_fit o2.wf u3 v1 e hd kU o2.dp (fun y hy=>bL y (by rw [← u2];exact hy)) (fun y hy=>bR y (by rw [← v2];exact hy)) (by rw [u2,v2,← List.length_append];exact two) x.1 (fun y hy j hj=>hK y (List.mem_append_left _ (by rw [← u2];exact hy)) j hj) (fun y hy j hj=>hK y (List.mem_append_right _ (by rw [← v2];exact hy)) j hj);exact ⟨s2,o1,o2,ha,hown,⟨fun q=>(by cases q),fun _=>⟨hd,m1,m2,u,hu,hf⟩⟩,U,V,u3,v1,u2,v2⟩
    refine ⟨fun j s1 h1 h2 bb=>?_,fun s1 bb=>?_⟩
    · by_cases j1:j<m
      · exact iL1 j s1 h1 j1 bb
      · by_cases j2:j<n
        · obtain ⟨s2,c1,c2⟩:=bb.split m l1 (by omega)
          obtain ⟨o1,o2,_⟩:=iR s2 c1;obtain ⟨k,k1,k2,k3,k4⟩:=o2 j s1 (by omega) j2 c2;have:=o1.noc;exact ⟨k,k1,k2,by omega,k4⟩
        · obtain rfl:j=n:=by omega
          obtain ⟨s2,o1,o2,_,_,c,_⟩:=fit s1 bb;have:=o1.noc;have:=o2.noc;exact ⟨_,hp,c,by omega,o2.mlen⟩
    · obtain ⟨s3,k,b3,k1,hF,wf,h1,h2,h3⟩:=bb.last (by omega)
      rw [hp] at k1;injection k1 with k1;subst k1;rcases h3 with ⟨h3,_⟩ | ⟨_,hin⟩
      · cases h3
      obtain ⟨s2,o1,o2,ha,hown,c,U,V,u1,v1,u2,v2⟩:=fit s3 b3;obtain ⟨_,m1,m2,_⟩:=c.2 rfl;have m1:mayP s3.cs (hdl s3.ms a:Int):=m1;have m2:mayP s3.cs (hdl s3.ms b:Int):=m2;have hin:InnR s3.cs s3.fr e (hdl s3.ms a) (hdl s3.ms b) s1.cs:=hin;obtain ⟨p1,p2,p3,p4,p5,p6,p7,p8,p9⟩:=own_inner o2.wf wf hF m1 m2 hin;have eq:hdl s1.ms (-((n:Int)+1))=tkH s3.cs s3.fr:=by
        rw [hdl_neg,h2,← o2.mlen,List.getD_eq_getElem?_getD,List.getElem?_append_right (Nat.le_refl _)];simp
      have k3:∀i,0<cc s.cs i→0<cc s3.cs i∧Core (ce s.cs i) (ce s3.cs i):=fun i hi=>⟨(o2.keep i (o1.keep i hi).1).1,(o1.keep i hi).2.trans (o2.keep i (o1.keep i hi).1).2⟩
      have vac:cc s.cs (tkH s3.cs s3.fr-1)=0:=by
        apply Classical.byContradiction;intro q;have:=(k3 (tkH s3.cs s3.fr-1) (by omega)).1;omega
      obtain ⟨t1,e1⟩:=o1.ms;obtain ⟨t2,e2⟩:=o2.ms;refine ⟨wf,⟨t1++t2++[tkH s3.cs s3.fr],by rw [h2,e2,e1];simp⟩,by rw [h2];simp [o2.mlen],fun i hi=>⟨(p2 i (k3 i hi).1).1,(k3 i hi).2.trans (p2 i (k3 i hi).1).2⟩,fun i hi=>?_,⟨_,by rw [eq];exact p6 U V u1 v1,by show U.ents++V.ents=_;rw [u2,v2];rfl⟩,by rw [eq];exact fun _=>p7,fun i=>?_,?_,fun _=>by rw [eq];exact ⟨p5,vac⟩,?_,by omega⟩
      · have hne: ¬i=tkH s3.cs s3.fr-1:=fun q=>by
          rw [q,vac] at hi;omega
        rw [p8,if_neg hne,o2.cnt i (o1.keep i hi).1,o1.cnt i hi]
      · have h4:=p1 i
        have h5:=hown i;rw [eq];omega
      · have:=o1.noc
        have:=o2.noc;omega
      · have:=o1.len
        have:=o2.len;omega

end Go.Proofs.YtdjpigfibafokaaGreatDoor

namespace Go.Proofs.YtdjpigfibafokaaGreatDoor
variable {E:List Ent}
variable {S fr fr' fr1:List Nat}
variable {cs cs' cs0 cs1:Lz}
variable {d g gs h i j n r room:Nat}
variable {lv:Value}
variable {q:Int}
variable {w w0:World}
set_option maxHeartbeats 4000000
set_option maxRecDepth 20000
open Go.RowKit

def posP (q:Int):List Nat:=if 0<q then [q.toNat] else []
def shPn (n:Pn):List Nat:=posP n.l++posP n.r
def shL (ps:List Pn) (q:Int):List Nat:=ps.flatMap shPn++posP q

theorem posP_nat (h i:Nat):(posP (h:Int)).count (i+1)=[h].count (i+1):=by
  unfold posP
  by_cases e:h=0
  · subst e
    simp
  · rw [if_pos (by omega),Int.toNat_natCast]
theorem posP_neg (h:q≤0):posP q=[]:=by unfold posP;rw [if_neg (by omega)]

def seg (ps:List Pn) (lo hi:Nat):List Pn:=(ps.take hi).drop lo
theorem seg_app (ps:List Pn) {lo m hi:Nat} (h1:lo≤m) (h2:m≤hi):seg ps lo hi=seg ps lo m++seg ps m hi:=by
  unfold seg;rw [List.drop_take,List.drop_take,List.drop_take,show hi-lo=(m-lo)+(hi-m) by omega,List.take_add,List.drop_drop,show lo+(m-lo)=m by omega]
theorem seg_one (ps:List Pn) {n:Nat} {x:Pn} (h:ps[n]?=some x):seg ps n (n+1)=[x]:=by
  unfold seg;have hl:=(List.getElem?_eq_some_iff.1 h).1;rw [List.drop_take,show n+1-n=1 by omega,List.drop_eq_getElem_cons hl,(List.getElem?_eq_some_iff.1 h).2];rfl
theorem seg_all (ps:List Pn):seg ps 0 ps.length=ps:=by simp [seg]
theorem seg_nil (ps:List Pn) (n:Nat):seg ps n n=[]:=by simp [seg]

theorem shL_count {cs:Lz} {ps:List Pn} (i:Nat):∀ {G:Gt} {lo hi:Nat} {q:Int},IsG cs ps lo hi q G→((seg ps lo hi).flatMap shPn++posP q).count (i+1)=G.olds.count (i+1)
  | .old h T,lo,hi,q,g=>by
    obtain ⟨rfl,rfl,_⟩:=g;rw [seg_nil];exact posP_nat h i
  | .lf x,lo,hi,q,g=>by
    obtain ⟨rfl,rfl,h⟩:=g;rw [seg_one ps h,posP_neg (by omega)];rfl
  | .nd d L R,lo,hi,q,g=>by
    obtain ⟨m,n,a,b,rfl,rfl,h,gL,gR⟩:=g;have l1:=gL.le;have l2:=gR.le;have iL:=shL_count i gL;have iR:=shL_count i gR;rw [seg_app ps (show lo≤n by omega) (show n≤n+1 by omega),seg_app ps l1 l2,seg_one ps h,posP_neg (show -((n:Int)+1)≤0 by omega)];simp only [List.flatMap_append,List.flatMap_cons,List.flatMap_nil,List.count_append,List.append_nil] at iL iR ⊢;rw [show shPn (pnI d a b)=posP a++posP b from rfl,List.count_append];show _=(L.olds++R.olds).count (i+1);rw [List.count_append];omega
theorem IsG.oldT {ps:List Pn}:∀ {G:Gt} {lo hi:Nat} {q:Int},IsG cs ps lo hi q G→∀h∈G.olds,∃T,IsT cs h T
  | .old h T,_,_,_,g,x,hx=>by
    obtain rfl:x=h:=by simpa [Gt.olds] using hx
    exact ⟨T,g.2.2⟩
  | .lf _,_,_,_,_,x,hx=>by cases hx
  | .nd _ _ _,_,_,_,g,x,hx=>by
    obtain ⟨m,n,a,b,_,_,_,gL,gR⟩:=g;rcases List.mem_append.1 hx with q | q
    · exact gL.oldT x q
    · exact gR.oldT x q

structure BatOk (cs0:Lz) (E:List Ent) (l:List Wt) (root top n:Nat) (olds:List Nat) (cs':Lz):Prop where
  wf:Wf cs' []
  tree:∃U,IsT cs' top U∧U.ents.Perm (ovE E l)
  dp:(sdC cs' top).kind=2→(sdC cs' top).dp=0
  own:∀i,own cs' [] i+(if root=i+1 then 1 else 0)=own cs0 [] i+(if top=i+1 then 1 else 0)
  keep:∀h T,IsT cs0 h T→(h=0∨0<cc cs' (h-1))→IsT cs' h T
  noc:noc cs'≤noc cs0+n
  len:cs'.length≤cs0.length+n
  just:root=0∨2≤cc cs0 (root-1)∨root∈olds→Go.Proofs.YtdjpigfibafokaaGreatDoor.noc cs'=Go.Proofs.YtdjpigfibafokaaGreatDoor.noc cs0+n

structure ShOk (cs0:Lz) (ps:List Pn) (q:Int) (G:Gt):Prop where
  mem:∀h∈shL ps q,h≠0∧0<cc cs0 (h-1)
  cnt:∀i,(shL ps q).count (i+1)=G.olds.count (i+1)

theorem sh_ok {ps:List Pn} {G:Gt} (g:IsG cs0 ps 0 ps.length q G):ShOk cs0 ps q G:=by
  have hc:∀i,(shL ps q).count (i+1)=G.olds.count (i+1):=fun i=>by
    have:=shL_count i g;rw [seg_all] at this;exact this
  have pos:∀(p:Int),∀h∈posP p,h≠0:=fun p h hh=>by
    unfold posP at hh;split at hh
    · obtain rfl:h=p.toNat:=by simpa using hh
      omega
    · cases hh
  have h0:∀h∈shL ps q,h≠0:=fun h hh=>by
    rcases List.mem_append.1 hh with x | x
    · obtain ⟨n,_,x⟩:=List.mem_flatMap.1 x
      rcases List.mem_append.1 x with x | x
      · exact pos _ h x
      · exact pos _ h x
    · exact pos _ h x
  refine ⟨fun h hh=>⟨h0 h hh,?_⟩,hc⟩;have h1:=h0 h hh;have h2:0<(shL ps q).count (h-1+1):=by
    rw [List.count_pos_iff,show h-1+1=h by omega];exact hh
  rw [hc,List.count_pos_iff,show h-1+1=h by omega] at h2;obtain ⟨T,hT⟩:=g.oldT h h2;rcases hT.occ with e | e
  · exact absurd e h1
  · exact e.2

theorem bz_start {ps:List Pn} {G:Gt} (W0:Wf cs0 []) (g:IsG cs0 ps 0 ps.length q G) (ok:GOk cs0 0 G) (hm:HmOk cs0 (shL ps q) cs1) (fr:List Nat):
    (∀j s1,0≤j→j<ps.length→Bz ps 0 ⟨cs1,fr,[]⟩ j s1→∃n,ps[j]?=some n∧Can s1 n∧noc s1.cs+0=noc cs1+j∧s1.ms.length=j)∧∀s1,Bz ps 0 ⟨cs1,fr,[]⟩ ps.length s1→BzOk 0 0 ps.length q G ⟨cs1,fr,[]⟩ s1:=by
  refine bz_ok G 0 0 ps.length q g ok (fun a _ b _ j hj=>by omega) ⟨cs1,fr,[]⟩ hm.wf (fun i hi=>?_) rfl fun i=>?_
  · rw [hm.cc,hm.ce]
    exact ⟨by omega,Core.refl _⟩
  · have:=hm.own W0 i
    rw [(sh_ok g).cnt] at this;show _≤own cs1 [] i;omega

theorem bat_ok0 {l:List Wt} {ps:List Pn} {G:Gt} {s:Bst} (W0:Wf cs0 []) (g:IsG cs0 ps 0 ps.length q G) (he:G.ents.Perm (ovE E l)) (hm:HmOk cs0 (shL ps q) cs1) (o:BzOk 0 0 ps.length q G ⟨cs1,fr,[]⟩ s):BatOk cs0 E l 0 (hdl s.ms q) ps.length G.olds s.cs:=by
  obtain ⟨U,u1,u2⟩:=o.tree;have k:∀i,0<cc cs0 i→0<cc s.cs i∧Core (ce cs0 i) (ce s.cs i):=fun i hi=>by
    have h:=o.keep i (by show 0<cc cs1 i;rw [hm.cc];omega);have e:ce cs1 i=ce cs0 i:=hm.ce i;refine ⟨h.1,?_⟩;rw [← e];exact h.2
  refine ⟨o.wf,⟨U,u1,by rw [u2];exact he⟩,o.dp,fun i=>?_,fun h T hT _=>hT.keep k,?_,?_,fun _=>?_⟩
  · have h1:=o.own i
    have h2:=hm.own W0 i;have h3:=(sh_ok g).cnt i;have e:Go.Proofs.YtdjpigfibafokaaGreatDoor.own (Bst.cs ⟨cs1,fr,[]⟩) [] i=Go.Proofs.YtdjpigfibafokaaGreatDoor.own cs1 [] i:=rfl;rw [if_neg (show ¬0=i+1 by omega)];omega
  · have h1:=o.noc
    have h2:=hm.noc;have e:Go.Proofs.YtdjpigfibafokaaGreatDoor.noc (Bst.cs ⟨cs1,fr,[]⟩)=Go.Proofs.YtdjpigfibafokaaGreatDoor.noc cs1:=rfl;omega
  · have h1:=o.len
    have h2:=hm.len;have e:(Bst.cs ⟨cs1,fr,[]⟩).length=cs1.length:=rfl;omega
  · have h1:=o.noc
    have h2:=hm.noc;have e:Go.Proofs.YtdjpigfibafokaaGreatDoor.noc (Bst.cs ⟨cs1,fr,[]⟩)=Go.Proofs.YtdjpigfibafokaaGreatDoor.noc cs1:=rfl;omega

theorem bat_ok1 {l:List Wt} {ps:List Pn} {G:Gt} {s:Bst} (W0:Wf cs0 []) (g:IsG cs0 ps 0 ps.length q G) (he:G.ents.Perm (ovE E l)) (hm:HmOk cs0 (shL ps q) cs1) (o:BzOk 0 0 ps.length q G ⟨cs1,fr,[]⟩ s) (hr:1≤r) (ho:0<own cs0 [] (r-1)) (run:Run s.cs fr1 [r] cs' fr' n) (st:Step s.cs [r] cs' [] n) (hne:hdl s.ms q≠r):BatOk cs0 E l r (hdl s.ms q) ps.length G.olds cs':=by
  have b:=bat_ok0 W0 g he hm o;obtain ⟨U,u1,u2⟩:=b.tree;have h0:∀i,own s.cs [] i=own cs0 [] i+(if hdl s.ms q=i+1 then 1 else 0):=fun i=>by
    have:=b.own i;rw [if_neg (show ¬0=i+1 by omega)] at this;exact this
  have hown:∀i,own cs' [] i+(if r=i+1 then 1 else 0)=own cs0 [] i+(if hdl s.ms q=i+1 then 1 else 0):=fun i=>by
    rw [st.own i,← h0 i];exact own_pend hr (by rw [h0];omega)
  have ct:hdl s.ms q=0∨0<cc cs' (hdl s.ms q-1):=by
    by_cases t0:hdl s.ms q=0
    · exact .inl t0
    · refine .inr ?_
      have:=hown (hdl s.ms q-1);rw [if_pos (show hdl s.ms q=hdl s.ms q-1+1 by omega),if_neg (by omega)] at this;unfold Go.Proofs.YtdjpigfibafokaaGreatDoor.own at this;omega
  have tt:=u1.stay st.wf st.keep ct;refine ⟨st.wf,⟨U,tt,u2⟩,fun k=>?_,hown,fun h T hT hh=>?_,by have:=b.noc;have:=st.noc;omega,by have:=b.len;have:=st.len;omega,fun hh=>?_⟩
  · by_cases t0:hdl s.ms q=0
    · rw [t0] at k
      exact absurd k (by show ¬zc.kind=2;decide)
    · have hc:=(st.keep _ (ct.resolve_left t0)).2
      have hd:=b.dp;rw [sdC,if_neg t0] at k hd ⊢;rw [hc] at k ⊢;exact hd k
  · have hs:h=0∨0<cc s.cs (h-1):=by
      rcases hh with e | e
      · exact .inl e
      · exact .inr (st.keep _ e).1
    exact (b.keep h T hT hs).stay st.wf st.keep hh
  · have c0:0<cc cs0 (r-1):=by
      unfold Go.Proofs.YtdjpigfibafokaaGreatDoor.own at ho;omega
    have c1:cc s.cs (r-1)=cc cs0 (r-1)+G.olds.count (r-1+1):=by
      have h1:cc s.cs (r-1)=cc cs1 (r-1):=o.cnt (r-1) (by show 0<cc cs1 (r-1);rw [hm.cc];omega);rw [h1,hm.cc,(sh_ok g).cnt]
    have c2:2≤cc s.cs (r-1):=by
      rcases hh with e | e | e
      · omega
      · omega
      · have:0<G.olds.count (r-1+1):=by
          rw [List.count_pos_iff,show r-1+1=r by omega];exact e
        omega
    have n0:n=0:=by
      cases run with
      | keep _ k=>
        cases k
        rfl
      | free hc _=>
        simp only [Nat.add_sub_cancel] at c2;omega
    have:=b.just (.inl rfl);have:=st.noc;omega

end Go.Proofs.YtdjpigfibafokaaGreatDoor
