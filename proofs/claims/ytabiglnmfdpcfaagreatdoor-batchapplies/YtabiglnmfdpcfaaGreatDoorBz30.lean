/- slices.Clone of writes, batch.latest and batch.Keys, as contracts. -/
import Derived.Test.YtabiglnmfdpcfaaGreatDoorBz01
import Derived.Test.YtabiglnmfdpcfaaGreatDoorBz29
import Derived.Test.YtabiglnmfdpcfaaGreatDoorBz22
import Derived.Test.YtabiglnmfdpcfaaGreatDoorBz27
import Derived.Test.YtabiglnmfdpcfaaGreatDoorBz28
import Derived.Test.YtabiglnmfdpcfaaGreatDoorBz24
import Derived.Test.YtabiglnmfdpcfaaGreatDoorBz20
namespace Go.Proofs.YtabiglnmfdpcfaaGreatDoor
variable {S fr:List Nat}
variable {T:Tre}
variable {b d g gs h i room:Nat}
variable {cs:Lz}
variable {kv lv:Value}
variable {q:Int}
variable {w w' w0 w4 w5:World}
set_option maxHeartbeats 8000000
set_option maxRecDepth 20000
open Go.RowKit

def ClnPost (ls:List Wt) (w:World) (e:Ending) (w':World):Prop:=∃v',e=.returned v'∧Lst w' 37 34 v' ls.length (flatE encW ls)∧(∀g,v'.ownBlock=some g→w.heap.size≤g)∧Kb w w'

theorem eql_wr_nil (w:World) (a:Option Addr) (l c:Nat):(binOp .eql 23 (.slice a l c) (.slice none 0 0)).run Tryz.prog w=.ok (.bool a.isNone) w:=
  Lib.run_eql_slice_nil w _ _ a l c 0 0 Tryz.underlying23

theorem wclone_any (v:Value) (ls:List Wt) (w:World) (h:WrAt w v ls) (hn:ls.length≤65536):Kc 90 #[v] w (ClnPost ls w):=by
  have HW:=hidden h;obtain ⟨a,cap,rfl,h1,h2,h3,h4⟩:=id h;cases a with
  | none=>
    have hl:ls.length=0:=by have:=h2 rfl;omega
    have HP:Hid (ClnPost ls w (.returned (.slice none 0 0)) w):=⟨_,rfl,⟨by rw [flatE_len ls (K:=34) (fun x hx=>(h4.1 x hx).len)],.inl ⟨rfl,hl⟩⟩,fun g hg=>by simp [Value.ownBlock] at hg,Below.refl _ _⟩;have e1:=eql_wr_nil w none ls.length cap;simp only [Option.isNone_none] at e1;clear h h1 h2 h3 h4 HW hl;go_enter Tryz.func90,Tryz.ntmps90
    go_wp2
    go_ret;exact HP.out
  | some ad=>
    have e1:=eql_wr_nil w (some ad) ls.length cap;simp only [Option.isNone_some] at e1;have HN:=hidden hn;have HPost:Hid (∀v' w1 w' g,w.heap.size≤g→Kb w w1→Lst w' 37 34 v' (0+ls.length) ([]++flatE encW ls)→w1.grownBy w' (some g)→WhereL w1 (.slice (some ⟨g,0,none⟩) 0 0) v'→ClnPost ls w (.returned v') w'):=fun v' w1 w' g k1 k2 k3 k4 k5=>by
      refine ⟨v',rfl,by simpa using k3,fun q hq=>?_,below_row k2 k4 k1⟩;rcases k5 with k5 | ⟨q',k6,k7⟩
      · rw [hq] at k5
        simp only [Value.ownBlock,Option.some.injEq] at k5;omega
      · rw [hq] at k6
        injection k6 with k6;have:=k2.size;omega
    clear h h1 h2 h3 h4 hn;go_enter Tryz.func90,Tryz.ntmps90
    go_wp2_with (first
      |(refine wpList_bs0w _ rfl rfl ?_;intro w1 g hg hown b1)
      |(refine wpList_appWs _ rfl _ _ rfl _ _ 0 [] ls rfl rfl hown (HW.out.grow b1) (by have:=HN.out;omega) ?_;intro v' w' k3 k4 k5))
    go_ret;exact HPost.out v' w1 w' g hg b1 k3 k4 k5

theorem ins_zero (v f:Value) (w:World):Kc 155 #[v,.int .i64 0,.int .i64 0,f] w fun e w'=>e=.returned (.tuple #[])∧w'=w:=by
  go_enter Tryz.func155,Tryz.ntmps155
  go_wp2_with fail
  go_loopw [8] (fun iv wr=>iv=.int .i64 1∧wr=w) (fun _ _=>0)
  case atStart=>exact ⟨rfl,rfl⟩
  case round=>
    obtain ⟨rfl,rfl⟩:=hrel;go_wp2
    go_end0;exact ⟨rfl,rfl⟩

theorem stb_zero (v f:Value) (w:World):Kc 135 #[v,.int .i64 0,f] w fun e w'=>e=.returned (.tuple #[])∧w'=w:=by
  have HC:Hid (∀w,Kc 155 #[v,.int .i64 0,.int .i64 0,f] w fun e w'=>e=.returned (.tuple #[])∧w'=w):=fun w=>ins_zero v f w
  go_enter Tryz.func135,Tryz.ntmps135
  go_wp2_with fail
  go_loopw [7,8] (fun av bv wr=>av=.int .i64 0∧bv=.int .i64 20∧wr=w) (fun _ _ _=>0)
  case atStart=>exact ⟨rfl,rfl,rfl⟩
  case round=>
    obtain ⟨rfl,rfl,rfl⟩:=hrel
    go_wp2_with (go_at_call 155;refine (HC.out _).mono ?_;rintro e w' ⟨rfl,hx⟩;rw [hx];clear hx w')
    go_loopw [6,7,8,9] (fun kv _ _ _ w2=>kv=.int .i64 20∧w2=wr) (fun _ _ _ _ _=>0)
    case atStart=>exact ⟨rfl,rfl⟩
    case round=>
      obtain ⟨rfl,rfl⟩:=hrel;go_wp2
      go_end0;exact ⟨rfl,rfl⟩

theorem srt_zero (f:Value) (w:World):Kc 91 #[.slice none 0 0,f] w fun e w'=>e=.returned (.tuple #[])∧w'=w:=by
  have HC:Hid (∀w,Kc 135 #[.slice none 0 0,.int .i64 0,f] w fun e w'=>e=.returned (.tuple #[])∧w'=w):=fun w=>stb_zero _ f w
  go_enter Tryz.func91,Tryz.ntmps91
  go_wp2_with (go_at_call 135;refine (HC.out _).mono ?_;rintro e w' ⟨rfl,hx⟩;rw [hx];clear hx w')
  go_end0;exact ⟨rfl,rfl⟩

def SrtPost (w0:World) (v:Value) (ls:List Wt) (e:Ending) (w':World):Prop:=e=.returned (.tuple #[])∧∃ys,ys.length=ls.length∧Lst w' 37 34 v ls.length (flatE encW ys)∧(∀x∈ys,WtOk x)∧Stab ls ys∧Srt 0 ys.length ys∧Kb w0 w'
theorem sorted_any (w0:World) (v:Value) (ls:List Wt) (w:World) (h:Lst w 37 34 v ls.length (flatE encW ls)) (hg:∀g,v.ownBlock=some g→w0.heap.size≤g) (hok:∀x∈ls,WtOk x) (hb:Kb w0 w) (hn:ls.length≤65536):Kc 91 #[v,.func (.func 88) #[] #[]] w (SrtPost w0 v ls):=by
  rcases h.2 with ⟨rfl,hz⟩ | ⟨g,cap,cur,rfl,_⟩
  · refine (srt_zero _ w).mono ?_
    rintro e w' ⟨rfl,rfl⟩;exact ⟨rfl,ls,rfl,h,hok,Stab.refl _,Srt.none (by omega),hb⟩
  · refine (srt_any w g ls.length cap ls w ⟨rfl,h,Mod.refl _ _,hok⟩ hn).mono ?_
    rintro e w' ⟨rfl,ys,sw,st,so⟩;have e1:=sw.len;refine ⟨rfl,ys,e1,sw.own,sw.ok,st.stab,by rw [e1];exact so,hb.trans ?_⟩;exact sw.mod.below (fun k hk=>by obtain rfl:k=g:=(by simpa using hk);exact hg k rfl) hb.size

def LatPost (ls:List Wt) (w:World) (e:Ending) (w':World):Prop:=∃v ks,e=.returned v∧Lat ls ks∧Lst w' 37 34 v ks.length (flatE encW ks)∧(∀g,v.ownBlock=some g→w.heap.size≤g)∧ks.length≤ls.length∧Kb w w'

structure Kpt (w0:World) (gs:Value) (ys:List Wt) (i:Nat) (w:World) (kv:Value) (ks:List Wt):Prop where
  srt:Lst w 37 34 gs ys.length (flatE encW ys)
  own:Lst w 37 34 kv ks.length (flatE encW ks)
  new:∀g,kv.ownBlock=some g→w0.heap.size≤g
  ne:∀g,kv.ownBlock=some g→gs.ownBlock≠some g
  kp:KpI ys i ks
  few:ks.length≤i
  ok:∀x∈ks,WtOk x
  bel:Kb w0 w
theorem Kpt.grow {gs:Value} {ys ks:List Wt} (h:Kpt w0 gs ys i w kv ks) (hb:Kb w w'):Kpt w0 gs ys i w' kv ks:=⟨lst_grow h.srt hb,lst_grow h.own hb,h.new,h.ne,h.kp,h.few,h.ok,grow_trans h.bel hb⟩
theorem Kpt.skip {gs:Value} {ys ks:List Wt} (h:Kpt w0 gs ys i w kv ks) (hn: ¬Ltr ys i):Kpt w0 gs ys (i+1) w kv ks:=⟨h.srt,h.own,h.new,h.ne,h.kp.skip hn,Nat.le_succ_of_le h.few,h.ok,h.bel⟩
theorem Kpt.take {gs kv':Value} {ys ks:List Wt} {x:Wt} (h:Kpt w0 gs ys i w kv ks) (hk:Kys ys) (hs:Srt 0 ys.length ys) (hx:ys[i]?=some x) (hxo:WtOk x) (hn:Ltr ys i) (q1:Lst w' 37 34 kv' (ks.length+1) (flatE encW ks++encW x)) (q2:w.grownBy w' kv.ownBlock) (q3:WhereL w kv kv'):Kpt w0 gs ys (i+1) w' kv' (ks++[x]):=by
  have hm:Mod (match kv.ownBlock with | some g=>[g] | none=>[]) w w':=Mod.of_grown q2 (fun k hk=>by rw [hk];simp);have hnew:∀g,kv'.ownBlock=some g→(kv.ownBlock=some g)∨w.heap.size≤g:=fun g hg=>by
    rcases q3 with q3 | ⟨k,k1,k2⟩
    · exact .inl (by rw [← q3];exact hg)
    · rw [hg] at k1
      injection k1 with k1;exact .inr (by omega)
  refine ⟨lst_mod h.srt hm fun g hg hin=>?_,by rw [List.length_append,flatE_snoc];exact q1,fun g hg=>?_,fun g hg e=>?_,h.kp.take hk hs hx hn,by rw [List.length_append];have:=h.few;simp;omega,fun y hy=>?_,?_⟩
  · cases hb:kv.ownBlock with
    | none=>rw [hb] at hin;cases hin
    | some q=>
      rw [hb] at hin;obtain rfl:g=q:=by simpa using hin
      exact h.ne g hb hg
  · rcases hnew g hg with e | e
    · exact h.new g e
    · have:=h.bel.size
      omega
  · rcases hnew g hg with e1 | e1
    · exact h.ne g e1 e
    · have:=lst_lt h.srt g e
      omega
  · rcases List.mem_append.1 hy with hy | hy
    · exact h.ok y hy
    · obtain rfl:y=x:=by simpa using hy
      exact hxo
  · refine h.bel.trans (hm.below (fun k hk=>?_) h.bel.size)
    cases hb:kv.ownBlock with
    | none=>rw [hb] at hk;cases hk
    | some q=>
      rw [hb] at hk;obtain rfl:k=q:=by simpa using hk
      exact h.new k hb

set_option maxRecDepth 100000 in
theorem latest_any (v:Value) (ls:List Wt) (w:World) (h:WrAt w v ls) (hn:ls.length≤65536):Kc 41 #[v] w (LatPost ls w):=by
  obtain ⟨fs,hu⟩:=u_write;have HUW:=hidden hu;have HOK:=hidden h.ok;have HC:=hidden (wclone_any v ls w h hn);have HSO:Hid (∀v' w',Lst w' 37 34 v' ls.length (flatE encW ls)→(∀g,v'.ownBlock=some g→w.heap.size≤g)→Kb w w'→Kc 91 #[v',.func (.func 88) #[] #[]] w' (SrtPost w v' ls)):=fun v' w' h1 h2 h3=>sorted_any w v' ls w' h1 h2 HOK.out h3 hn
  have HPost:Hid (∀kv ks ys gs w',Kpt w gs ys ys.length w' kv ks→Kys ys→Srt 0 ys.length ys→Stab ls ys→LatPost ls w (.returned kv) w'):=fun kv ks ys gs w' k1 k2 k3 k4=>⟨kv,ks,rfl,k1.kp.done k2 k3 k4,k1.own,k1.new,by have:=k1.few;have:=k4.1.length_eq;omega,k1.bel⟩
  have HNL:=hidden hn;clear h hu hn;go_enter Tryz.func41,Tryz.ntmps41
  go_wp2_with (first
    |(go_at_call 90;refine HC.out.mono ?_;rintro e w1 ⟨v1,rfl,c1,c2,c3⟩;have C1:=hidden c1;have C2:=hidden c2;have C3:=hidden c3;clear c1 c2 c3;obtain ⟨va,vc,rfl⟩:=lst_slice C1.out)
    |(go_at_call 91;refine (HSO.out _ _ C1.out C2.out C3.out).mono ?_;rintro e w2 ⟨rfl,ys,s1,s2,s3,s4,s5,s6⟩;have S1:=hidden s1;have S2:=hidden s2;have S3:=hidden s3;have S4:=hidden s4;have S5:=hidden s5;have S6:=hidden s6;clear s1 s2 s3 s4 s5 s6))
  obtain ⟨n,hn0⟩:∃n,n=ls.length:=⟨_,rfl⟩;have HN:Hid (n=ls.length∧ys.length=n∧n≤65536):=⟨hn0,by rw [hn0];exact S1.out,by rw [hn0];exact HNL.out⟩;rw [← hn0];have HSL:Hid (Lst w2 37 34 (.slice va n vc) ys.length (flatE encW ys)):=by show Lst _ _ _ _ _ _;rw [HN.out.2.1];have:=S2.out;rw [← hn0] at this;exact this
  have HK0:Hid (Kpt w (.slice va n vc) ys 0 w2 (.slice none 0 0) []):=⟨HSL.out,⟨rfl,.inl ⟨rfl,rfl⟩⟩,fun g hg=>by simp [Value.ownBlock] at hg,fun g hg=>by simp [Value.ownBlock] at hg,KpI.nil ys,by simp,fun x hx=>(by cases hx),S6.out⟩;have HKY:Hid (Kys ys):=fun x hx=>(S3.out x hx).hk
  clear C1 C2 C3 HC HSO hn0 S1 S2 S6 HSL HNL
  go_loopw [5,6,7,15] (fun kv _ _ iv wr=>∃(i:Nat) (ks:List Wt),iv=.int .i64 (i:Int)∧i≤n∧(∃a m c,kv=.slice a m c)∧Hid (Kpt w (.slice va n vc) ys i wr kv ks)) (fun _ _ _ iv _=>n-(intOf iv).toNat)
  case atStart=>exact ⟨0,[],rfl,by omega,⟨_,_,_,rfl⟩,HK0⟩
  case round=>
    clear HK0;obtain ⟨i,ks,rfl,hin,⟨ka,km,kc,rfl⟩,hkp⟩:=hrel
    by_cases hlt:i<n
    · as_aux_lemma=>
        have z1:(i:Int)<(n:Int):=by omega
        have z2:(0:Int)≤(i:Int):=by omega
        obtain ⟨g,cc,hva,_⟩:=lst_pos hkp.out.srt (by have:=HN.out;omega);injection hva with hva hnn hvc;subst hva;clear hnn;have hi:i<ys.length:=by have:=HN.out;omega
        obtain ⟨X,hX⟩:∃X,X=ys[i]!:=⟨_,rfl⟩;have hXg:ys[i]?=some X:=by rw [hX,getElem!_pos ys i hi];exact List.getElem?_eq_getElem hi
        have hXo:WtOk X:=S3.out X (List.mem_of_getElem? hXg);have HR:Hid (∀w',Kb wr w'→w'.rangeAt g (i * 34) (encW X)):=fun w' hb=>by
          have h1:=(lstE_range (by have:=(lst_grow hkp.out.srt hb);rw [HN.out.2.1] at this;exact this) HN.out.2.1 (fun x hx=>(S3.out x hx).len) i hi).1;rw [hX,getElem!_pos ys i hi];exact h1
        have HSX:Hid ((Tryz.prog.info? 37).map (·.size)=some (encW X).length):=by show _=_;rw [hXo.len];exact size_write
        have HSA:Hid ((Tryz.prog.info? 37).map (·.size)=some (encW X).toArray.size):=by show _=_;rw [List.size_toArray,hXo.len];exact size_write
        have HSZ:Hid ((encW zW).toArray.size=(encW X).toArray.size):=by show _=_;rw [List.size_toArray,List.size_toArray,hXo.len,zW_ok.len]
        have HON:=hidden hXo.all;have HXO:=hidden hXo;have HXG:=hidden hXg;obtain ⟨j,hj⟩:∃j,j=i+1:=⟨_,rfl⟩;have HJ:=hidden hj;have hi2:i≤200000:=by have:=HN.out;omega
        have hwi:=w64_succ hi2 hj;have hwi2:=wi_succ hi2 hj;have HX0:=hidden hX;clear hX hXg hXo hi hvc hj hi2
        go_wp2_with (first
          |((with_reducible refine at_ldd 19 18 ?_);refine wpList_load_mid rfl 37 _ rfl g (i * 34) rfl (encW X) _ (HR.out _ (Below.refl _ _)) HUW.out rfl HSX.out ?_)
          |((with_reducible refine at_ald 7 ?_);refine wpList_al _ rfl _ rfl _ zero_write ?_;intro w3 gq hg3 hl3 bq3 q3)
          |((with_reducible refine at_st 7 ?_);refine wpList_sto _ rfl _ _ _ rfl gq _ (encW X).toArray rfl rfl bq3 HSA.out HSZ.out HON.out ?_;intro w4 bq4 r4))
        have d4:Kb wr w4:=below_row q3 r4 hg3;have d4':Kb wr w4.drew:=grow_trans d4 (Below.refl _ _).drew;have BX:=hidden (bq4:Blk w4 gq 37 (encW X).toArray);clear bq3 bq4 q3 r4 hg3 hl3
        by_cases hlast:j=n
        · have y1:(j:Int)=(n:Int):=by rw [hlast]
          have HLT:Hid (Ltr ys i):=.inl (by have:=HJ.out;have:=HN.out;omega);have HKP2:=hidden (hkp.out.grow d4');refine wp_region_held_drew (S:=fun _=>True) (by kernel_rfl) (trivial) (fun hHeld=>?_);refine tkp 0 (.int .i64 (i:Int)) hHeld ?_;simp only [Act.put,zq1,zq2,zq4,zq5,zq6];refine tkp 1 (.int .i64 (j:Int)) hHeld ?_;simp only [Act.put,zq1,zq2,zq3,zq4,zq5,zq6];refine tkp 2 (.slice (some ⟨g,0,none⟩) n vc) hHeld ?_;simp only [Act.put,zq1,zq2,zq3,zq4,zq5,zq6];refine tkp 3 (.int .i64 (n:Int)) hHeld ?_;simp only [Act.put,zq1,zq2,zq3,zq4,zq5,zq6];refine tkp 4 (.bool true) hHeld ?_;simp only [Act.put,zq1,zq2,zq3,zq4,zq5,zq6];refine tkp 5 (.bool true) hHeld ?_;simp only [Act.put,zq1,zq2,zq3,zq4,zq5,zq6];refine tks 6 hHeld ?_;simp only [Act.put,zq1,zq2,zq3,zq4,zq5,zq6];refine tks 7 hHeld ?_;simp only [Act.put,zq1,zq2,zq3,zq4,zq5,zq6];refine tks 8 hHeld ?_;simp only [Act.put,zq1,zq2,zq3,zq4,zq5,zq6];refine tks 9 hHeld ?_;simp only [Act.put,zq1,zq2,zq3,zq4,zq5,zq6];refine tks 10 hHeld ?_;simp only [Act.put,zq1,zq2,zq3,zq4,zq5,zq6];refine tks 11 hHeld ?_;simp only [Act.put,zq1,zq2,zq3,zq4,zq5,zq6];refine tks 12 hHeld ?_;simp only [Act.put,zq1,zq2,zq3,zq4,zq5,zq6];refine tks 13 hHeld ?_;simp only [Act.put,zq1,zq2,zq3,zq4,zq5,zq6];refine tks 14 hHeld ?_;simp only [Act.put,zq1,zq2,zq3,zq4,zq5,zq6];refine tkp 15 (.bool true) hHeld ?_;simp only [Act.put,zq1,zq2,zq3,zq4,zq5,zq6];refine wpAnyH_done (by kernel_rfl) ?_ _;clear d4;have BX2:=hidden (BX.out.grow (Below.refl _ _).drew);clear BX;have BX:=BX2;clear BX2;have HEQX:Hid True:=trivial;clear HEQX;have HKM:Hid (km=ks.length):=by
            obtain ⟨a',c',e⟩:=lst_slice HKP2.out.own;injection e
          have HSZ9:Hid (km≤65536):=by show km≤65536;rw [HKM.out];have:=HKP2.out.few;have:=HN.out;clear hwi hwi2;omega
          have HTK:Hid (∀w6 w' kv',Below w4.drew.heap.size w4.drew w6→Lst w' 37 34 kv' (km+1) (flatE encW ks++encW X)→w6.grownBy w' (Value.slice ka km kc).ownBlock→WhereL w6 (.slice ka km kc) kv'→Kpt w (.slice (some ⟨g,0,none⟩) n vc) ys j w' kv' (ks++[X])):=fun w6 w' kv' k0 k1 k2 k3=>by
            rw [HJ.out];rw [HKM.out] at k1;exact (HKP2.out.grow k0).take HKY.out S5.out HXG.out HXO.out HLT.out k1 k2 k3
          have HLS:Hid (∀w6,Below w4.drew.heap.size w4.drew w6→Lst w6 37 34 (.slice ka km kc) km (flatE encW ks)):=fun w6 k0=>by have:=lst_grow HKP2.out.own k0;rw [← HKM.out] at this;exact this
          have HIN:=hidden info_write;have HJN:Hid (j≤n):=by show j≤n;have:=HJ.out;clear hwi hwi2;omega
          clear hkp
          go_wp2_with (first
            |((with_reducible refine at_ldd 37 7 ?_);refine wpList_lds _ rfl _ _ rfl gq _ _ rfl BX.out HUW.out HSA.out ?_)
            |(refine wpList_bsw _ rfl _ rfl X rfl HXO.out.len ?_;intro w6 g6 hg6 B6 b6)
            |(refine wpList_appL _ rfl _ _ _ rfl 37 34 64 Tryz.underlying23 HIN.out (by omega) _ km (flatE encW ks) rfl (HLS.out _ b6) g6 (encW X) rfl B6 HXO.out.len HXO.out.one (by have:=HSZ9.out;simp only [maxLen];clear hwi hwi2;omega) (by have:=HSZ9.out;clear hwi hwi2;omega) ?_;intro kv' w7 k1 k2 k3;have HK3:=hidden (HTK.out w6 w7 kv' b6 k1 k2 k3);clear k2 k3;obtain ⟨ka',kc',rfl⟩:=lst_slice k1;clear k1))
          clear hwi hwi2;exact ⟨⟨j,ks++[X],by first | rfl | rw [hlast],HJN.out,⟨_,_,_,rfl⟩,HK3⟩,by have:=HJ.out;simp [intOf];omega⟩
        · have y1: ¬(j:Int)=(n:Int):=by clear hwi hwi2;omega
          have y1':((j:Int) == (n:Int))=false:=by simp;clear hwi hwi2;omega
          have hjn:j<n:=by have:=HJ.out;clear hwi hwi2;omega
          have y2:(0:Int)≤(j:Int):=by clear hwi hwi2;omega
          have y3:(j:Int)<(n:Int):=by clear hwi hwi2;omega
          have hjl:j<ys.length:=by have:=HN.out;clear hwi hwi2;omega
          obtain ⟨Y,hY⟩:∃Y,Y=ys[j]!:=⟨_,rfl⟩;have hYo:WtOk Y:=by rw [hY,getElem!_pos ys j hjl];exact S3.out _ (List.getElem_mem hjl)
          have HRY:Hid (∀w',Kb wr w'→w'.rangeAt g (j * 34) (encW Y)):=fun w' hb=>by
            have h1:=(lstE_range (by have:=(lst_grow hkp.out.srt hb);rw [HN.out.2.1] at this;exact this) HN.out.2.1 (fun x hx=>(S3.out x hx).len) j hjl).1;rw [hY,getElem!_pos ys j hjl];exact h1
          have HSY:Hid ((Tryz.prog.info? 37).map (·.size)=some (encW Y).length):=by show _=_;rw [hYo.len];exact size_write
          have HCB:Hid (∀w',Kc 88 #[.agg (encW X).toArray,.agg (encW Y).toArray] w' fun e w''=>e=.returned (.int .i64 (cmp X.k Y.k))∧Below w'.heap.size w' w''):=fun w'=>byKey_any X Y w' HXO.out hYo
          have HEQ:Hid (cmp X.k Y.k=0↔ ¬Ltr ys i):=by
            show _↔_;have e1:ky ys i=X.k:=ky_get HXG.out;have e2:ky ys (i+1)=Y.k:=by rw [← HJ.out];unfold ky;rw [← hY]
            have e3: ¬i+1=ys.length:=by have:=HJ.out;have:=HN.out;clear hwi hwi2;omega
            unfold Ltr;rw [e1,e2];rcases cmp_key HXO.out.hk hYo.hk with ⟨q,e⟩ | ⟨q,e⟩ | ⟨q,e⟩
            · exact ⟨fun _ h=>h.elim e3 (fun h=>h e),fun _=>q⟩
            · exact ⟨fun h=>by clear hwi hwi2;omega,fun h=>absurd (.inr (fun e4=>by rw [e4] at e;exact al_irr _ e)) h⟩
            · exact ⟨fun h=>by clear hwi hwi2;omega,fun h=>absurd (.inr (fun e4=>by rw [e4] at e;exact al_irr _ e)) h⟩
          obtain ⟨r,hr⟩:∃r,r=cmp X.k Y.k:=⟨_,rfl⟩;rw [← hr] at HCB HEQ;obtain ⟨d,hd⟩:∃d:Bool,d=!decide (r=0):=⟨_,rfl⟩;have HD:=hidden hd;have HRS:Hid (∀w',Kb w4 w'→w'.rangeAt gq 0 (encW X)∧w'.rangeAt g (j * 34) (encW Y)):=fun w' hb=>⟨(BX.out.grow hb).rngW,HRY.out _ (grow_trans d4 hb)⟩
          have d0:Kb w4 w4.drew:=(Below.refl _ _).drew;clear hr hd hY hYo hjl hjn;refine wp_region_held_drew (S:=fun w'=>w'.rangeAt gq 0 (encW X)∧w'.rangeAt g (j * 34) (encW Y)) (by kernel_rfl) (HRS.out _ d0) (fun hHeld=>?_);refine tkp 0 (.int .i64 (i:Int)) hHeld ?_;simp only [Act.put,zq1,zq2,zq4,zq5,zq6];refine tkp 1 (.int .i64 (j:Int)) hHeld ?_;simp only [Act.put,zq1,zq2,zq3,zq4,zq5,zq6];refine tkp 2 (.slice (some ⟨g,0,none⟩) n vc) hHeld ?_;simp only [Act.put,zq1,zq2,zq3,zq4,zq5,zq6];refine tkp 3 (.int .i64 (n:Int)) hHeld ?_;simp only [Act.put,zq1,zq2,zq3,zq4,zq5,zq6];refine tkp 4 (.bool false) hHeld ?_;simp only [Act.put,zq1,zq2,zq3,zq4,zq5,zq6];refine tkp 5 (.bool false) hHeld ?_;simp only [Act.put,zq1,zq2,zq3,zq4,zq5,zq6];refine tkp 6 (.func (.func 88) #[] #[]) hHeld ?_;simp only [Act.put,zq1,zq2,zq3,zq4,zq5,zq6];refine tkg 7 (.agg (encW X).toArray) rfl (yieldsIf_load_mid rfl 37 (.tmp 7) rfl gq 0 rfl (encW X) _ (fun w hS=>hS.1) HUW.out rfl HSX.out) hHeld ?_;simp only [Act.put,zq1,zq2,zq3,zq4,zq5,zq6];refine tkp 8 (.slice (some ⟨g,0,none⟩) n vc) hHeld ?_;simp only [Act.put,zq1,zq2,zq3,zq4,zq5,zq6];refine tkp 9 (.int .i64 (i:Int)) hHeld ?_;simp only [Act.put,zq1,zq2,zq3,zq4,zq5,zq6];refine tkp 10 (.int .i64 (j:Int)) hHeld ?_;simp only [Act.put,zq1,zq2,zq3,zq4,zq5,zq6];refine tkp 11 (.pointer (some ⟨g,j * 34,none⟩)) hHeld ?_;simp only [Act.put,zq1,zq2,zq3,zq4,zq5,zq6];refine tkg 12 (.agg (encW Y).toArray) rfl (yieldsIf_load_mid rfl 37 (.tmp 31) rfl g (j * 34) rfl (encW Y) _ (fun w hS=>hS.2) HUW.out rfl HSY.out) hHeld ?_;simp only [Act.put,zq1,zq2,zq3,zq4,zq5,zq6];refine wpAnyH_ready (rs:=[13]) (by kernel_rfl) (by simp) ?_;refine AllReadyH.cons rfl (fun KQ hK=>?_) AllReadyH.nil;go_simp;refine (HCB.out _).mono ?_;rintro e wx ⟨rfl,bx⟩;have d1:=grow_trans d0 bx;refine hK.out _ _ (HRS.out _ d1) (fun hHeld=>?_);clear hK KQ;refine tkg 14 (.bool d) rfl (Or.inl ⟨by rfl,fun w hS=>by (go_simp;first | rfl | (rw [HD.out];rfl) | (rw [HD.out];simp))⟩) hHeld ?_;simp only [Act.put,zq1,zq2,zq3,zq4,zq5,zq6];refine tkp 15 (.bool d) hHeld ?_;simp only [Act.put,zq1,zq2,zq3,zq4,zq5,zq6];refine wpAnyH_done (by kernel_rfl) ?_ _;clear HRS HCB HSY HRY
          by_cases hr0:r=0
          · obtain rfl:d=false:=by rw [HD.out];simp [hr0]
            have HK2:Hid (Kpt w (.slice (some ⟨g,0,none⟩) n vc) ys j wx (.slice ka km kc) ks):=by show Kpt _ _ _ _ _ _ _;rw [HJ.out];exact (hkp.out.grow (grow_trans d4 d1)).skip (HEQ.out.1 hr0)
            have HJN:Hid (j≤n):=by show j≤n;have:=HJ.out;clear hwi hwi2;omega
            clear HEQ HD hkp
            go_wp2_with fail
            clear hwi hwi2;exact ⟨⟨j,ks,rfl,HJN.out,⟨_,_,_,rfl⟩,HK2⟩,by have:=HJ.out;simp [intOf];omega⟩
          · obtain rfl:d=true:=by rw [HD.out];simp [hr0]
            have HLT:Hid (Ltr ys i):=Classical.byContradiction fun q=>hr0 (HEQ.out.2 q)
            have HKP2:=hidden (hkp.out.grow (grow_trans d4 d1));have BX2:=hidden (BX.out.grow d1);clear BX;have BX:=BX2;clear BX2;have HEQX:Hid True:=trivial;clear HEQ HD;clear HEQX;have HKM:Hid (km=ks.length):=by
              obtain ⟨a',c',e⟩:=lst_slice HKP2.out.own;injection e
            have HSZ9:Hid (km≤65536):=by show km≤65536;rw [HKM.out];have:=HKP2.out.few;have:=HN.out;clear hwi hwi2;omega
            have HTK:Hid (∀w6 w' kv',Kb wx w6→Lst w' 37 34 kv' (km+1) (flatE encW ks++encW X)→w6.grownBy w' (Value.slice ka km kc).ownBlock→WhereL w6 (.slice ka km kc) kv'→Kpt w (.slice (some ⟨g,0,none⟩) n vc) ys j w' kv' (ks++[X])):=fun w6 w' kv' k0 k1 k2 k3=>by
              rw [HJ.out];rw [HKM.out] at k1;exact (HKP2.out.grow k0).take HKY.out S5.out HXG.out HXO.out HLT.out k1 k2 k3
            have HLS:Hid (∀w6,Kb wx w6→Lst w6 37 34 (.slice ka km kc) km (flatE encW ks)):=fun w6 k0=>by have:=lst_grow HKP2.out.own k0;rw [← HKM.out] at this;exact this
            have HIN:=hidden info_write;have HJN:Hid (j≤n):=by show j≤n;have:=HJ.out;clear hwi hwi2;omega
            clear hkp
            go_wp2_with (first
              |((with_reducible refine at_ldd 37 7 ?_);refine wpList_lds _ rfl _ _ rfl gq _ _ rfl BX.out HUW.out HSA.out ?_)
              |(refine wpList_bsw _ rfl _ rfl X rfl HXO.out.len ?_;intro w6 g6 hg6 B6 b6)
              |(refine wpList_appL _ rfl _ _ _ rfl 37 34 64 Tryz.underlying23 HIN.out (by omega) _ km (flatE encW ks) rfl (HLS.out _ b6) g6 (encW X) rfl B6 HXO.out.len HXO.out.one (by have:=HSZ9.out;simp only [maxLen];clear hwi hwi2;omega) (by have:=HSZ9.out;clear hwi hwi2;omega) ?_;intro kv' w7 k1 k2 k3;have HK3:=hidden (HTK.out w6 w7 kv' b6 k1 k2 k3);clear k2 k3;obtain ⟨ka',kc',rfl⟩:=lst_slice k1;clear k1))
            clear hwi hwi2;exact ⟨⟨j,ks++[X],by first | rfl | rw [hlast],HJN.out,⟨_,_,_,rfl⟩,HK3⟩,by have:=HJ.out;simp [intOf];omega⟩
    · have z1: ¬(i:Int)<(n:Int):=by omega
      have HP:Hid (LatPost ls w (.returned (.slice ka km kc)) wr):=HPost.out _ ks ys _ _ (by rw [show ys.length=i by have:=HN.out;omega];exact hkp.out) HKY.out S5.out S4.out;clear hkp;go_wp2
      go_ret;exact HP.out

theorem keys_any (v:Value) (ls:List Wt) (w:World) (h:WrAt w v ls) (hn:ls.length≤65536):Kc 28 #[v] w fun e w'=>∃ks,Lat ls ks∧ks.length≤ls.length∧e=.returned (.int .i64 (ks.length:Int))∧Kb w w':=by
  have HC:=hidden (latest_any v ls w h hn);clear h hn;go_enter Tryz.func28,Tryz.ntmps28
  go_wp2_with (go_at_call 41;refine HC.out.mono ?_;rintro e w1 ⟨v1,ks,rfl,c1,c2,c3,c4,c5⟩;have C1:=hidden c1;have C4:=hidden c4;have C5:=hidden c5;obtain ⟨va,vc,rfl⟩:=lst_slice c2;clear c1 c2 c3 c4 c5)
  go_ret;exact ⟨ks,C1.out,C4.out,rfl,C5.out⟩

end Go.Proofs.YtabiglnmfdpcfaaGreatDoor

namespace Go.Proofs.YtabiglnmfdpcfaaGreatDoor
variable {S fr:List Nat}
variable {T:Tre}
variable {b d g gs h i room:Nat}
variable {cs:Lz}
variable {kv lv:Value}
variable {q:Int}
variable {w w' w0 w4 w5:World}
set_option maxHeartbeats 8000000
set_option maxRecDepth 20000
open Go.RowKit

def tooL (x:Wt):Bool:=!x.g && decide (1024<x.b.length)

theorem tooL_any (x:Wt) (ok:WtOk x) (w:World):Kc 82 #[.agg (encW x).toArray] w fun e w'=>e=.returned (.bool (tooL x))∧Kb w w':=by
  obtain ⟨va,vc,hv⟩:=ok.hv;have HG:Hid (∀(w':World) (b:Nat),Blk w' b 37 (encW x).toArray→w'.cell? ⟨b,32,none⟩=some (.bool x.g)∧w'.cell? ⟨b,33,none⟩=some (.slice va x.b.length vc)):=fun w' b hb=>by
    have hr:w'.rangeAt b 0 (encW x):=by have:=hb.range;simpa using this
    have h1:=encW_gone hr ok.hk.1;have h2:=encW_val hr ok.hk.1;rw [hv] at h2;exact ⟨by simpa using h1,by simpa using h2⟩
  cases hg:x.g with
  | true=>
    have e:tooL x=false:=by simp [tooL,hg]
    rw [e];rw [hg] at HG;generalize (encW x).toArray=X at HG ⊢;clear ok hv hg e;go_enter Tryz.func82,Tryz.ntmps82
    go_wp2_with ((with_reducible refine at_bxd 1 ?_);refine wpList_bx _ rfl _ _ rfl _ rfl ?_;intro w1 b1 hg1 hl1 B1 q1;have HQ1:=hidden q1;obtain ⟨c32,c33⟩:=HG.out _ _ B1;clear hg1 hl1 B1 q1)
    go_ret;exact ⟨rfl,HQ1.out⟩
  | false=>
    rw [hg] at HG;have e:tooL x=decide (1024<x.b.length):=by simp [tooL,hg]
    rw [e];generalize (encW x).toArray=X at HG ⊢;generalize x.b.length=n at HG e ⊢;clear ok hv hg e
    by_cases h:1024<n
    · have h1:(1024:Int)<(n:Int):=by omega
      rw [decide_eq_true h];clear h;go_enter Tryz.func82,Tryz.ntmps82
      go_wp2_with ((with_reducible refine at_bxd 1 ?_);refine wpList_bx _ rfl _ _ rfl _ rfl ?_;intro w1 b1 hg1 hl1 B1 q1;have HQ1:=hidden q1;obtain ⟨c32,c33⟩:=HG.out _ _ B1;clear hg1 hl1 B1 q1)
      go_ret;exact ⟨rfl,HQ1.out⟩
    · have h1: ¬(1024:Int)<(n:Int):=by omega
      rw [decide_eq_false h];clear h;go_enter Tryz.func82,Tryz.ntmps82
      go_wp2_with ((with_reducible refine at_bxd 1 ?_);refine wpList_bx _ rfl _ _ rfl _ rfl ?_;intro w1 b1 hg1 hl1 B1 q1;have HQ1:=hidden q1;obtain ⟨c32,c33⟩:=HG.out _ _ B1;clear hg1 hl1 B1 q1)
      go_ret;exact ⟨rfl,HQ1.out⟩

theorem tidx_any (v:Value) (l:List Wt) (w:World) (h:WrAt w v l) (hn:l.length≤65536):Kc 127 #[v,.func (.func 82) #[] #[]] w fun e w'=>∃i:Int,e=.returned (.int .i64 i)∧(0≤i↔l.any tooL=true)∧Kb w w':=by
  have HT:Hid (∀x∈l,∀w',Kc 82 #[.agg (encW x).toArray] w' fun e w''=>e=.returned (.bool (tooL x))∧Below w'.heap.size w' w''):=fun x hx w'=>tooL_any x (h.ok x hx) w'
  have HW:=hidden h;obtain ⟨a,c,rfl,_⟩:=id h;obtain ⟨n,hnn⟩:∃n,n=l.length:=⟨_,rfl⟩;have HAt:Hid (∀w' k,Kb w w'→k<n→∃(g off:Nat) (x:Wt),a=some ⟨g,off,none⟩∧l[k]?=some x∧WtOk x∧w'.rangeAt g (off+k * 34) (encW x)):=fun w' k hb hk=>by
    rw [hnn] at hk;obtain ⟨a',cap,e,_,_,h3,h4,_⟩:=HW.out.grow hb;injection e with e1 _ _;obtain ⟨g,off,ea,hr⟩:=h3 (by omega);have:=hr k hk;rw [getElem!_pos l k hk] at this;exact ⟨g,off,l[k],e1.trans ea,List.getElem?_eq_getElem hk,h4 _ (List.getElem_mem hk),this⟩
  have HN:Hid (n≤65536):=by rw [hnn];exact hn
  have HNO:Hid (∀k,k=n→(∀j x,j<k→l[j]?=some x→tooL x=false)→((0:Int)≤ -1↔l.any tooL=true)):=fun k hk hf=>by
    constructor
    · intro q
      omega
    · intro q
      obtain ⟨x,hx,ht⟩:=List.any_eq_true.1 q;obtain ⟨j,hj,rfl⟩:=List.mem_iff_getElem.1 hx;have:=hf j l[j] (by omega) (List.getElem?_eq_getElem hj);rw [this] at ht;cases ht
  have HYES:Hid (∀(k:Nat) x,l[k]?=some x→tooL x=true→((0:Int)≤(k:Int)↔l.any tooL=true)):=fun k x hx ht=>⟨fun _=>List.any_eq_true.2 ⟨x,List.mem_of_getElem? hx,ht⟩,fun _=>by omega⟩
  generalize l.any tooL=t0 at HNO HYES ⊢;rw [← hnn];clear h HW hn hnn;go_enter Tryz.func127,Tryz.ntmps127
  go_wp2_with fail
  go_loopw [8] (fun iv wr=>∃(k:Nat),k≤n∧iv=.int .i64 (k:Int)∧Hid (∀j x,j<k→l[j]?=some x→tooL x=false)∧Hid (Kb w wr)) (fun iv _=>n-(intOf iv).toNat)
  case atStart=>exact ⟨0,by omega,rfl,fun j x hj=>by omega,Below.refl _ _⟩
  case round=>
    obtain ⟨k,hk,rfl,HF,HB⟩:=hrel
    by_cases hlt:k<n
    · obtain ⟨g,off,x,rfl,hx,ok,hr⟩:=HAt.out wr k HB.out hlt
      have HX:=hidden hx;have HRG:=hidden hr;have k0:(0:Int)≤(k:Int):=by omega
      have k1:(k:Int)<(n:Int):=by omega
      have hk6:k<65536:=by have:=HN.out;omega
      have hwk:wrap64 ((k:Int)+1)=((k+1:Nat):Int):=by rw [Go.IntWalk.wrap64_in _ (by omega)];rfl
      have HSZ:Hid ((Tryz.prog.info? 37).map (·.size)=some (encW x).length):=by show _=_;rw [ok.len];exact size_write
      obtain ⟨fs,hfs⟩:=u_write;have HFS:=hidden hfs;have HC:=hidden (HT.out x (List.mem_of_getElem? hx) wr);have HNXT:Hid (tooL x=false→∀j x,j<k+1→l[j]?=some x→tooL x=false):=fun ht j y hj hy=>by
        by_cases e:j=k
        · subst e
          rw [hx] at hy;injection hy with hy;rw [← hy];exact ht
        · exact HF.out j y (by omega) hy
      have HY:=hidden (HYES.out k x hx);generalize encW x=X at HRG HSZ HC;generalize tooL x=t at HC HNXT HY;clear hx ok hr hfs HX HT HAt HF HYES HNO;cases t with
      | true=>
        have HY2:=hidden (HY.out rfl);clear HY HNXT
        go_wp2_with (first
          |((with_reducible refine at_ldd 15 14 ?_);refine wpList_ldw _ rfl _ _ rfl g (off+k * 34) rfl X _ HRG.out HFS.out rfl HSZ.out ?_)
          |(go_at_call 82;refine HC.out.mono ?_;rintro e w1 ⟨rfl,q1⟩;have HQ1:=hidden q1;clear q1))
        go_ret;exact ⟨_,rfl,HY2.out,grow_trans HB.out HQ1.out⟩
      | false=>
        have HN2:=hidden (HNXT.out rfl);clear HY HNXT
        go_wp2_with (first
          |((with_reducible refine at_ldd 15 14 ?_);refine wpList_ldw _ rfl _ _ rfl g (off+k * 34) rfl X _ HRG.out HFS.out rfl HSZ.out ?_)
          |(go_at_call 82;refine HC.out.mono ?_;rintro e w1 ⟨rfl,q1⟩;have HQ1:=hidden q1;clear q1))
        exact ⟨⟨k+1,by omega,by go_num,HN2.out,grow_trans HB.out HQ1.out⟩,by simp [intOf];exact mea_step k1⟩
    · obtain rfl:k=n:=by omega
      have nlt: ¬(k:Int)<(k:Int):=by omega
      have HE:=hidden (HNO.out k rfl HF.out);clear HNO HYES HF HT HAt hlt hk
      go_wp2_with fail
      go_ret;exact ⟨_,rfl,HE.out,HB.out⟩

theorem tany_any (v:Value) (l:List Wt) (w:World) (h:WrAt w v l) (hn:l.length≤65536):Kc 81 #[v,.func (.func 82) #[] #[]] w fun e w'=>e=.returned (.bool (l.any tooL))∧Kb w w':=by
  have HC:=hidden (tidx_any v l w h hn);generalize l.any tooL=t at HC ⊢;clear h hn;cases t with
  | true=>
    go_enter Tryz.func81,Tryz.ntmps81
    go_wp2_with (go_at_call 127;refine HC.out.mono ?_;rintro e w1 ⟨i,rfl,hi,q1⟩;have HQ1:=hidden q1;have i0:=hi.2 rfl;clear q1 hi HC)
    go_ret;exact ⟨rfl,HQ1.out⟩
  | false=>
    go_enter Tryz.func81,Tryz.ntmps81
    go_wp2_with (go_at_call 127;refine HC.out.mono ?_;rintro e w1 ⟨i,rfl,hi,q1⟩;have HQ1:=hidden q1;have i0: ¬0≤i:=fun q=>(by have:=hi.1 q;cases this);have i1:i<0:=(by omega);have i2:decide (0≤i)=false:=decide_eq_false i0;clear q1 hi HC)
    go_ret;exact ⟨rfl,HQ1.out⟩

def bRf (n room:Nat) (ah:Int) (l:List Wt) (k:Nat):Int:=if 64<l.length∨l.any tooL=true then 4 else if ah≠0 then ah else if fitsN n room (k:Int)=true then 0 else 9

theorem bref_any (H:Hs w0 S w g gs room cs fr) (h:Int) (v:Value) (l:List Wt) (hv:WrAt w v l) (hn:l.length≤65536):Kc 39 #[.pointer (some ⟨g,0,none⟩),.int .i64 h,v] w fun e w'=>∃k:Nat,e=.returned (.int .i64 (bRf (noc cs) room (vAh true (cot cs h) (cat cs h) h) l k))∧(64<l.length∨l.any tooL=true∨vAh true (cot cs h) (cat cs h) h≠0∨∃ks,Lat l ks∧ks.length=k)∧Kb w w':=by
  have HR:=hidden (root_any H.vw 0);rw [show vRt true (cot cs 0) (cat cs 0) 0=0 from rfl] at HR;have HA:Hid (Kr w 58 #[.pointer (some ⟨g,0,none⟩),.int .i64 h] (.int .i64 (vAh true (cot cs h) (cat cs h) h))):=fun w' hb=>athand_any (H.vw.grow hb) h
  have HF:Hid (∀w' (j:Int),Kb w w'→Kc 59 #[.pointer (some ⟨g,0,none⟩),.int .i64 j] w' fun e w''=>e=.returned (.bool (fitsN (noc cs) room j))∧Below w'.heap.size w' w''):=fun w' j hb=>fits9_any (H.grow hb) j
  have HK:Hid (∀w',Kb w w'→Kc 28 #[v] w' fun e w''=>∃ks,Lat l ks∧e=.returned (.int .i64 (ks.length:Int))∧Below w'.heap.size w' w''):=fun w' hb=>(keys_any v l w' (hv.grow hb) hn).mono fun e w'' ⟨ks,q1,_,q3,q4⟩=>⟨ks,q1,q3,q4⟩
  have HT:Hid (Kr w 81 #[v,.func (.func 82) #[] #[]] (.bool (l.any tooL))):=fun w' hb=>tany_any v l w' (hv.grow hb) hn
  have HONE:Hid (∀a b,Lat l a→Lat l b→a=b):=fun a b q1 q2=>q1.one q2
  unfold bRf;obtain ⟨a,c,rfl,_⟩:=id hv;generalize vAh true (cot cs h) (cat cs h) h=r at HA ⊢;generalize hln:l.length=n at *;generalize l.any tooL=t at HT ⊢;clear H hv
  by_cases h1:64<n
  · have n1:(64:Int)<(n:Int):=by omega
    refine (show Kc 39 #[.pointer (some ⟨g,0,none⟩),.int .i64 h,.slice a n c] w fun e w'=>e=.returned (.int .i64 4)∧Kb w w' from ?_).mono fun e w' ⟨q1,q2⟩=>⟨0,by rw [if_pos (.inl h1)];exact q1,.inl h1,q2⟩
    clear h1 HA HF HK HT HONE;go_enter Tryz.func39,Tryz.ntmps39
    go_wp2_with (go_at_call 19;refine HR.out.mono ?_;rintro e w1 ⟨rfl,b1⟩;have HB1:=hidden b1;clear b1)
    go_ret;exact ⟨rfl,HB1.out⟩
  · have n1: ¬(64:Int)<(n:Int):=by omega
    cases t with
    | true=>
      refine (show Kc 39 #[.pointer (some ⟨g,0,none⟩),.int .i64 h,.slice a n c] w fun e w'=>e=.returned (.int .i64 4)∧Kb w w' from ?_).mono fun e w' ⟨q1,q2⟩=>⟨0,by rw [if_pos (.inr rfl)];exact q1,.inr (.inl rfl),q2⟩
      clear h1 HA HF HK HONE;go_enter Tryz.func39,Tryz.ntmps39
      go_wp2_with (first
        |(go_at_call 19;refine HR.out.mono ?_;rintro e w1 ⟨rfl,b1⟩;have HB1:=hidden b1;clear b1)
        |(go_at_call 81;refine (HT.out _ HB1.out).mono ?_;rintro e w2 ⟨rfl,b2⟩;have HB2:=hidden (grow_trans HB1.out b2);clear b2))
      go_ret;exact ⟨rfl,HB2.out⟩
    | false=>
      have hneg: ¬(64<n∨false=true):=fun q=>q.elim h1 (fun q=>by cases q)
      by_cases h2:r=0
      · subst h2
        by_cases hfit:∃ks,Lat l ks∧fitsN (noc cs) room (ks.length:Int)=true
        · obtain ⟨k0,hk0,hf0⟩:=hfit
          have HK2:Hid (Kr w 28 #[.slice a n c] (.int .i64 (k0.length:Int))):=fun w' hb=>(HK.out w' hb).mono fun e w'' ⟨ks,q1,q2,q3⟩=>⟨by rw [q2,HONE.out ks k0 q1 hk0],q3⟩
          have HF2:Hid (Kr w 59 #[.pointer (some ⟨g,0,none⟩),.int .i64 (k0.length:Int)] (.bool true)):=fun w' hb=>by rw [← hf0];exact HF.out w' _ hb
          refine (show Kc 39 #[.pointer (some ⟨g,0,none⟩),.int .i64 h,.slice a n c] w fun e w'=>e=.returned (.int .i64 0)∧Kb w w' from ?_).mono fun e w' ⟨q1,q2⟩=>⟨k0.length,by rw [if_neg hneg,if_neg (fun q=>q rfl),if_pos hf0];exact q1,.inr (.inr (.inr ⟨k0,hk0,rfl⟩)),q2⟩
          generalize (k0.length:Int)=j at HK2 HF2;clear h1 HK HF HONE hk0 hf0 hneg;go_enter Tryz.func39,Tryz.ntmps39
          go_wp2_with (first
          |(go_at_call 19;refine HR.out.mono ?_;rintro e w1 ⟨rfl,b1⟩;have HB1:=hidden b1;clear b1)
          |(go_at_call 81;refine (HT.out _ HB1.out).mono ?_;rintro e w2 ⟨rfl,b2⟩;have HB2:=hidden (grow_trans HB1.out b2);clear b2)
          |(go_at_call 58;refine (HA.out _ HB2.out).mono ?_;rintro e w3 ⟨rfl,b3⟩;have HB3:=hidden (grow_trans HB2.out b3);clear b3)
            |(go_at_call 28;refine (HK2.out _ HB3.out).mono ?_;rintro e w4 ⟨rfl,b4⟩;have HB4:=hidden (grow_trans HB3.out b4);clear b4)
            |(go_at_call 59;refine (HF2.out _ HB4.out).mono ?_;rintro e w5 ⟨rfl,b5⟩;have HB5:=hidden (grow_trans HB4.out b5);clear b5))
          go_ret;exact ⟨rfl,HB5.out⟩
        · have HF2:Hid (∀w' ks,Lat l ks→Kb w w'→Kc 59 #[.pointer (some ⟨g,0,none⟩),.int .i64 (ks.length:Int)] w' fun e w''=>e=.returned (.bool false)∧Below w'.heap.size w' w''):=fun w' ks hks hb=>by
            rw [← show fitsN (noc cs) room (ks.length:Int)=false from by
              cases hh:fitsN (noc cs) room (ks.length:Int) with
              | true=>exact absurd ⟨ks,hks,hh⟩ hfit
              | false=>rfl]
            exact HF.out w' _ hb
          refine (show Kc 39 #[.pointer (some ⟨g,0,none⟩),.int .i64 h,.slice a n c] w fun e w'=>∃ks,Lat l ks∧e=.returned (.int .i64 9)∧Kb w w' from ?_).mono fun e w' ⟨k0,hk0,q1,q2⟩=>⟨k0.length,by rw [if_neg hneg,if_neg (fun q=>q rfl),if_neg (fun q=>hfit ⟨k0,hk0,q⟩)];exact q1,.inr (.inr (.inr ⟨k0,hk0,rfl⟩)),q2⟩
          clear h1 HF hfit hneg;go_enter Tryz.func39,Tryz.ntmps39
          go_wp2_with (first
          |(go_at_call 19;refine HR.out.mono ?_;rintro e w1 ⟨rfl,b1⟩;have HB1:=hidden b1;clear b1)
          |(go_at_call 81;refine (HT.out _ HB1.out).mono ?_;rintro e w2 ⟨rfl,b2⟩;have HB2:=hidden (grow_trans HB1.out b2);clear b2)
          |(go_at_call 58;refine (HA.out _ HB2.out).mono ?_;rintro e w3 ⟨rfl,b3⟩;have HB3:=hidden (grow_trans HB2.out b3);clear b3)
            |(go_at_call 28;refine (HK.out _ HB3.out).mono ?_;rintro e w4 ⟨ks,hks,rfl,b4⟩;have HKS:=hidden hks;have HB4:=hidden (grow_trans HB3.out b4);clear b4 hks)
            |(go_at_call 59;refine (HF2.out _ _ HKS.out HB4.out).mono ?_;rintro e w5 ⟨rfl,b5⟩;have HB5:=hidden (grow_trans HB4.out b5);clear b5))
          go_ret;exact ⟨_,HKS.out,rfl,HB5.out⟩
      · have h3:(r == 0)=false:=by simpa using h2
        refine (show Kc 39 #[.pointer (some ⟨g,0,none⟩),.int .i64 h,.slice a n c] w fun e w'=>e=.returned (.int .i64 r)∧Kb w w' from ?_).mono fun e w' ⟨q1,q2⟩=>⟨0,by rw [if_neg hneg,if_pos h2];exact q1,.inr (.inr (.inl h2)),q2⟩
        clear h1 HF HK HONE hneg;go_enter Tryz.func39,Tryz.ntmps39
        go_wp2_with (first
          |(go_at_call 19;refine HR.out.mono ?_;rintro e w1 ⟨rfl,b1⟩;have HB1:=hidden b1;clear b1)
          |(go_at_call 81;refine (HT.out _ HB1.out).mono ?_;rintro e w2 ⟨rfl,b2⟩;have HB2:=hidden (grow_trans HB1.out b2);clear b2)
          |(go_at_call 58;refine (HA.out _ HB2.out).mono ?_;rintro e w3 ⟨rfl,b3⟩;have HB3:=hidden (grow_trans HB2.out b3);clear b3))
        go_ret;exact ⟨rfl,HB3.out⟩

end Go.Proofs.YtabiglnmfdpcfaaGreatDoor

namespace Go.Proofs.YtabiglnmfdpcfaaGreatDoor
variable {S fr:List Nat}
variable {T:Tre}
variable {b d g gs h i room:Nat}
variable {cs:Lz}
variable {kv lv:Value}
variable {q:Int}
variable {w w' w0 w4 w5:World}
set_option maxHeartbeats 8000000
set_option maxRecDepth 20000
open Go.RowKit

theorem grw_from {l:List Wt} {ps ps':List Pn} (g:Grw cs d h l ps q ps'):∀n∈ps',n∈ps∨n.inn=true∨n.w∈l:=by
  induction g with
  | none=>exact fun n h=>.inl h
  | gone _ _=>exact fun n h=>.inl h
  | same _ _ _ _=>exact fun n h=>.inl h
  | leaf _ _ _=>
    intro n h;rcases List.mem_append.1 h with h | h
    · exact .inl h
    · obtain rfl:n=pnL _:=by simpa using h
      exact .inr (.inr (by simp [pnL]))
  | stay _ _ _ _ i1 i2=>
    intro n h;rcases i2 n h with h | h | h
    · rcases i1 n h with h | h | h
      · exact .inl h
      · exact .inr (.inl h)
      · exact .inr (.inr (List.mem_filter.1 h).1)
    · exact .inr (.inl h)
    · exact .inr (.inr (List.mem_filter.1 h).1)
  | @join d h l ps p1 p2 a b _ _ _ _ _ i1 i2=>
    intro n h;have h:n∈p2∨n.inn=true:=by
      unfold jnP at h;split at h
      · exact .inl h
      · split at h
        · exact .inl h
        · rcases List.mem_append.1 h with h | h
          · exact .inl h
          · obtain rfl:n=pnI d a b:=by simpa using h
            exact .inr rfl
    rcases h with h | h
    · rcases i2 n h with h | h | h
      · rcases i1 n h with h | h | h
        · exact .inl h
        · exact .inr (.inl h)
        · exact .inr (.inr (List.mem_filter.1 h).1)
      · exact .inr (.inl h)
      · exact .inr (.inr (List.mem_filter.1 h).1)
    · exact .inr (.inl h)

theorem bat_same (W:Wf cs []) {h:Nat} {T:Tre} {ks:List Wt} {ps:List Pn} {G:Gt} (r:Rt cs h T) (g:GrOk cs 0 h T ks [] (h:Int) ps G):BatOk cs T.ents ks h h ps.length G.olds cs:=by
  obtain ⟨rfl,U,u1,u2⟩:=g.stays (by omega);have e:(h:Int).toNat=h:=by omega
  rw [e] at u1 u2;refine ⟨W,⟨U,u2,?_⟩,r.dp,fun i=>rfl,fun h T hT _=>hT,Nat.le_add_right _ _,Nat.le_add_right _ _,fun _=>rfl⟩;have:=g.ents;rw [u1] at this;exact this

def ApPost (w0:World) (S:List Nat) (g gs room:Nat) (cs:Lz) (fr:List Nat) (h:Nat) (T:Tre) (l:List Wt) (e:Ending) (w':World):Prop:=
  ∃(ks:List Wt) (q:Int) (ps:List Pn) (G:Gt) (top:Nat) (cs':Lz) (fr':List Nat),e=.returned (.tuple #[.int .i64 (top:Int),.int .i64 0])∧Hs w0 S w' g gs room cs' fr'∧Lat l ks∧GrOk cs 0 h T ks [] q ps G∧BatOk cs T.ents ks h top ps.length G.olds cs'∧(q=(h:Int)→cs'=cs∧fr'=fr)

theorem zero_plan:∀w,(zeroValue 82).run Tryz.prog w=.ok (.agg #[.pointer none,.slice none 0 0]) w:=zero_of_info (n:=2) (by kernel_rfl) |>.1

theorem nod_len {α:Type}:∀(ks l:List α),ks.Pairwise (· ≠ ·)→(∀x∈ks,x∈l)→ks.length≤l.length
  | [],l,_,_=>Nat.zero_le _
  | a::t,l,hp,hs=>by
    obtain ⟨s,r,rfl⟩:=List.append_of_mem (hs a (by simp));have hp:=List.pairwise_cons.1 hp;have:=nod_len t (s++r) hp.2 fun x hx=>by
      have h1:=hs x (List.mem_cons_of_mem _ hx);have h2:=hp.1 x hx;simp only [List.mem_append,List.mem_cons] at h1 ⊢;rcases h1 with q | q | q
      · exact .inl q
      · exact absurd q.symm h2
      · exact .inr q
    simp only [List.length_append,List.length_cons] at this ⊢;omega
theorem Lat.len {l r:List Wt} (h:Lat l r):r.length≤l.length:=nod_len r l (List.Pairwise.imp (fun {a b} q e=>by subst e;exact q.ne) h.ris) h.sub

structure Gw5 (w w5:World) (b g:Nat) (cs:Lz) (h:Nat) (T:Tre) (l ks:List Wt) (q:Int) (ps:List Pn) (lv:Value) (G:Gt):Prop where
  pr:PlR w5 b (.pointer (some ⟨g,0,none⟩)) ps lv
  bel:Kb w w5
  blo:w.heap.size≤b
  lo:∀x,lv.ownBlock=some x→w.heap.size≤x
  lat:Lat l ks
  few:ks.length≤l.length
  gr:GrOk cs 0 h T ks [] q ps G
  wr:∀n∈ps,n.inn=false→n.w∈l
theorem Gw5.grow {w6:World} {l ks:List Wt} {ps:List Pn} {G:Gt} (x:Gw5 w w5 b g cs h T l ks q ps lv G) (hb:Kb w5 w6):Gw5 w w6 b g cs h T l ks q ps lv G:=⟨x.pr.grow hb,grow_trans x.bel hb,x.blo,x.lo,x.lat,x.few,x.gr,x.wr⟩
theorem Gw5.cnt {l ks:List Wt} {ps:List Pn} {G:Gt} (x:Gw5 w w5 b g cs h T l ks q ps lv G):ps.length≤257 * ks.length:=by
  have:=x.gr.cnt;simpa using this

theorem gpre_of (r:Rt cs h T) {l ks:List Wt} (hl:Lat l ks) (ok:∀x∈l,WtOk x) (ht:l.any tooL=false):GPre cs 0 h T ks:=by
  refine ⟨r.tree,r.dp,hl.ris,fun x hx=>?_,fun a _ b _ j hj=>by omega,by omega⟩;have hx:=hl.sub x hx;refine ⟨(ok x hx).hk,(ok x hx).hb,fun hg=>?_⟩;have:=List.any_eq_false.1 ht x hx;simp only [tooL,hg,Bool.not_false,Bool.true_and,decide_eq_true_eq] at this;omega

theorem gw5_any (W:Wf cs []) (V:∀w',Kb w w'→Vw w' (.pointer (some ⟨g,0,none⟩)) true (cot cs) (cat cs)) {h:Nat} {T:Tre} (r:Rt cs h T) {v v1:Value} {l ks:List Wt} (hv:WrAt w v l) (hn:l.length≤64) (ht:l.any tooL=false) (hb:Kb w w4) (hlo:w.heap.size≤b) (B:Blk w4 b 82 #[.pointer (some ⟨g,0,none⟩),.slice none 0 0]) (hl:Lat l ks) (hfew:ks.length≤l.length) (hs:Lst w4 37 34 v1 ks.length (flatE encW ks)):
    Kc 40 #[.pointer (some ⟨b,0,none⟩),.int .i64 (h:Int),.int .i64 0,v1] w4 fun e w5=>∃q ps lv G,e=.returned (.int .i64 q)∧Gw5 w w5 b g cs h T l ks q ps lv G:=by
  have ok:∀x∈ks,WtOk x:=fun x hx=>hv.ok x (hl.sub x hx)
  have bel:∀w',Mod [b] w4 w'→Kb w w':=fun w' m=>hb.trans (m.below (fun k hk=>by simp at hk;omega) hb.size)
  have P:PlM w4 w4 b (.pointer (some ⟨g,0,none⟩)) [] (.slice none 0 0):=⟨B,World.ownsRow_nil _ _ _ _,fun n hn=>(by cases hn),Mod.refl _ _⟩;have p:=gpre_of r hl hv.ok ht;have hw:Kq [b] w4 fun w'=>WrAt w' v1 ks:=fun w' m=>wrAt_own (lst_mod hs m fun x hx hq=>by
    simp at hq;exact lst_blk_ne hs B (by decide) (by rw [← hq];exact hx)) ok fun x hx=>(hv.reads x (hl.sub x hx)).grow (bel w' m)
  have hk:ks.length≤64:=by omega
  refine (grow_any W (fun w' m=>V w' (bel w' m)) 256 0 rfl w4 _ [] h T ks v1 P p hw (by simp;omega) (by omega)).mono ?_;rintro e w5 ⟨q,ps,lv,rfl,gr,pm⟩;obtain ⟨G,hG⟩:=grw_ok W gr T p;refine ⟨q,ps,lv,G,rfl,pm.pr,bel w5 pm.mod,hlo,fun x hx=>?_,hl,hfew,hG,fun n hn hi=>?_⟩
  · have h1:=(pm.lst.lt x hx).1
    have h2:=hb.size;omega
  · rcases grw_from gr n hn with q | q | q
    · cases q
    · rw [hi] at q
      cases q
    · exact hl.sub _ q

structure Hd8 (w0 w8:World) (S:List Nat) (b g gs room:Nat) (cs:Lz) (fr:List Nat) (q:Int) (ps:List Pn) (lv:Value) (cs1:Lz):Prop where
  hm:HmOk cs (shL ps q) cs1
  hs:Hs w0 S w8 g gs room cs1 fr
  pr:PlR w8 b (.pointer (some ⟨g,0,none⟩)) ps lv
  ap:∀vp vf,Stm w8 g gs vp vf room cs1 fr→∀x,(x=b∨lv.ownBlock=some x)→x ∉ stB g gs vp vf cs1

theorem shL_len (ps:List Pn) (q:Int):(shL ps q).length≤2 * ps.length+1:=by
  have h1:=shN_len ps;have h2:(posP q).length≤1:=by unfold posP;split <;> simp
  rw [shL,List.length_append];omega

theorem hd8_any {w7:World} {l ks:List Wt} {ps:List Pn} {G:Gt} (H:Hs w0 S w g gs room cs fr) (hbd:∀i,own cs [] i≤1000000) (hn:l.length≤64) (x:Gw5 w w7 b g cs h T l ks q ps lv G) {a:Option Addr} {c:Nat} (hr:w7.ownsRow w.heap.size 3 1 (.slice a (shL ps q).length c) (shL ps q).length (nats (shL ps q))):
    Kc 44 #[.pointer (some ⟨g,0,none⟩),.slice a (shL ps q).length c] w7 fun e w8=>e=.returned (.slice none 0 0)∧∃cs1,Hd8 w0 w8 S b g gs room cs fr q ps lv cs1:=by
  have H7:=H.grow x.bel;have hsz:=x.bel.size;have hnot:∀vp vf,Stm w7 g gs vp vf room cs fr→∀y,w.heap.size≤y→y ∉ stB g gs vp vf cs:=fun vp vf s y hy hq=>by
    obtain ⟨⟨vp',vf',s',_,_⟩,_⟩:=H;have s2:=s'.grow x.bel;obtain rfl:vp=vp':=Option.some.inj (s.sl.c2.symm.trans s2.sl.c2);obtain rfl:vf=vf':=Option.some.inj (s.sl.c3.symm.trans s2.sl.c3);have:=s'.lts y hq;omega
  obtain ⟨S1,k1,k2,k3,k4⟩:=H7.apart (fun y=>(y=b∨lv.ownBlock=some y)∨(Value.slice a (shL ps q).length c).ownBlock=some y) (fun vp vf s y hy=>hnot vp vf s y (by
    rcases hy with (hy | hy) | hy
    · rw [hy];exact x.blo
    · exact x.lo y hy
    · exact (hr.lt y hy).1)) (fun y hy=>by
    rcases hy with (hy | hy) | hy
    · rw [hy];exact x.pr.blk.lt
    · exact (x.pr.lst.lt y hy).2
    · exact (hr.lt y hy).2)
  have hI:Kq S1 w7 (fun w'=>Ints9 w' a (shL ps q)):=fun w' m=>ints9_lst (lst_mod (owR_lst hr) m fun y hy=>k2 y (.inr hy)) rfl
  have hl1:=shL_len ps q;have hl2:=x.cnt;have hl3:=x.few;have so:=sh_ok x.gr.isG;obtain ⟨_,hr1,hr2⟩:=H.sizes;have hmm:=hm_ok H.2 _ (shL ps q) rfl (fun y hy=>.inr (so.mem y hy).2);refine (bholdAll_any k1 a _ c (shL ps q) hI rfl (by omega) (fun y hy=>.inr (so.mem y hy).2) (fun _ i=>?_)).mono ?_
  · have:=H.2.ccLe i 1000000 (hbd i)
    omega
  · rintro e w8 ⟨rfl,h8⟩
    obtain ⟨q1,q2,q3⟩:=k4 _ _ _ h8;exact ⟨rfl,_,hmm,q1,x.pr.mod q2 (k2 _ (.inl (.inl rfl))) (fun y hy=>k2 y (.inl (.inr hy))),fun vp vf s y hy=>q3 vp vf s y (.inl hy)⟩

theorem bld8_any {w8:World} {l ks:List Wt} {ps:List Pn} {G:Gt} (W:Wf cs []) (hrd:∀x∈l,Kq S w0 fun w'=>Reads w' x.v x.b) (hL:Kq S w0 Laid) (hn:l.length≤64) (hf:noc cs+258 * ks.length≤room) (x:Gw5 w w5 b g cs h T l ks q ps lv G) {cs1:Lz} (d:Hd8 w0 w8 S b g gs room cs fr q ps lv cs1):
    Kc 45 #[.pointer (some ⟨b,0,none⟩),.int .i64 q] w8 fun e w9=>∃s,e=.returned (.int .i64 (hdl s.ms q:Int))∧Hs w0 S w9 g gs room s.cs s.fr∧BzOk 0 0 ps.length q G ⟨cs1,fr,[]⟩ s:=by
  obtain ⟨S1,k1,k2,k3,k4⟩:=d.hs.apart (fun y=>y=b∨lv.ownBlock=some y) d.ap (fun y hy=>by
    rcases hy with hy | hy
    · rw [hy];exact d.pr.blk.lt
    · exact (d.pr.lst.lt y hy).2)
  obtain ⟨z1,z2⟩:=bz_start W x.gr.isG x.gr.ok d.hm fr;have hl2:=x.cnt;have hl3:=x.few;have hp:=isG_parts x.gr.isG;refine (build_any k1 d.pr (fun vp vf s y hy=>d.ap vp vf s y hy) (k3 _ hL) (fun n hn hi=>k3 _ (hrd _ (x.wr n hn hi))) (fun j s1 hj hz=>z1 j s1 (Nat.zero_le _) hj hz) (fun j n hj=>hp.2 j n (Nat.zero_le _) hj) (by have:=d.hm.noc;omega) (by omega) q hp.1).mono ?_;rintro e w9 ⟨s,hz,rfl,h9⟩;exact ⟨s,rfl,(k4 _ _ _ h9).1,z2 s hz⟩

theorem drp9_any {w9:World} {l ks:List Wt} {ps:List Pn} {G:Gt} (W:Wf cs []) (r:Rt cs h T) (x:Gw5 w w5 b g cs h T l ks q ps lv G) (hq:q≠(h:Int)) {cs1:Lz} (hm:HmOk cs (shL ps q) cs1) {s:Bst} (o:BzOk 0 0 ps.length q G ⟨cs1,fr,[]⟩ s) (H:Hs w0 S w9 g gs room s.cs s.fr):
    Kc 46 #[.pointer (some ⟨g,0,none⟩),.int .i64 (h:Int)] w9 fun e w10=>∃u1 u2 cs' fr',e=.returned (.tuple #[.int .i64 u1,.int .i64 u2])∧Hs w0 S w10 g gs room cs' fr'∧BatOk cs T.ents ks h (hdl s.ms q) ps.length G.olds cs':=by
  have b0:=bat_ok0 (E:=T.ents) (l:=ks) W x.gr.isG x.gr.ents hm o
  by_cases h0:h=0
  · subst h0
    refine (hs_drop_miss H 0 (by simp [cot])).mono ?_;rintro e w10 ⟨rfl,h10⟩;exact ⟨_,_,_,_,rfl,h10,b0⟩
  · have ho:=r.own.resolve_left h0
    have ho2:0<own s.cs [] (h-1):=by
      have:=b0.own (h-1);rw [if_neg (by omega)] at this;omega
    have c:=hs_drop H (h-1) ho2;rw [show h-1+1=h by omega] at c;refine c.mono ?_;rintro e w10 ⟨cs',fr',n,run,st,rfl,h10⟩;refine ⟨_,_,cs',fr',rfl,h10,bat_ok1 W x.gr.isG x.gr.ents hm o (by omega) ho run st fun e=>?_⟩
    by_cases q0:q<0
    · obtain ⟨n1,n2⟩:=o.new q0
      have n2:cc cs1 (hdl s.ms q-1)=0:=n2;rw [e,hm.cc] at n2;unfold Go.Proofs.YtabiglnmfdpcfaaGreatDoor.own at ho;omega
    · rw [hdl,if_neg q0] at e
      omega

theorem Rt.at0 (r:Rt cs h T):vAh true (cot cs h) (cat cs h) h=0:=by
  unfold vAh;rw [if_pos r.root,if_neg];rintro ⟨h0,q⟩;have h1:h≠0:=fun e=>h0 (by omega)
  have ho:=r.own.resolve_left h1;have hc:cot cs (h:Int)=cc cs (h-1):=by rw [cot,if_pos (by omega),show ((h:Int)-1).toNat=h-1 by omega]
  rw [hc,cat_nat,sdC,if_neg h1] at q;unfold Go.Proofs.YtabiglnmfdpcfaaGreatDoor.own at ho;rw [List.count_nil] at ho;omega

theorem bRf_long {l:List Wt} (h:64<l.length∨l.any tooL=true) (n room:Nat) (ah:Int) (k:Nat):bRf n room ah l k=4:=if_pos h
theorem bRf_ok {l:List Wt} (hn:l.length≤64) (ht:l.any tooL=false) {n room:Nat} {k:Nat} (hk:k≤64):bRf n room 0 l k=if n+258 * k≤room then 0 else 9:=by
  unfold bRf;rw [if_neg (fun q=>q.elim (by omega) (by rw [ht];exact fun q=>by cases q)),if_neg (fun q=>q rfl)]
  by_cases hh:n+258 * k≤room
  · rw [if_pos hh,if_pos (by simp only [fitsN,decide_eq_true_eq];omega)]
  · rw [if_neg hh,if_neg (by simp only [fitsN,decide_eq_true_eq];omega)]

theorem apply_refused (H:Hs w0 S w g gs room cs fr) (h:Int) (v:Value) (l:List Wt) (hv:WrAt w v l) (hn:l.length≤65536) (x:Int) (hx:∀k:Nat,(64<l.length∨l.any tooL=true∨vAh true (cot cs h) (cat cs h) h≠0∨∃ks,Lat l ks∧ks.length=k)→bRf (noc cs) room (vAh true (cot cs h) (cat cs h) h) l k=x) (h0:x≠0):Kc 13 #[.pointer (some ⟨g,0,none⟩),.int .i64 h,v] w fun e w'=>e=.returned (.tuple #[.int .i64 0,.int .i64 x])∧Hs w0 S w' g gs room cs fr:=by
  have HR:Hid (Kc 39 #[.pointer (some ⟨g,0,none⟩),.int .i64 h,v] w fun e w'=>e=.returned (.int .i64 x)∧Hs w0 S w' g gs room cs fr):=(bref_any H h v l hv hn).mono fun e w' ⟨k,q1,q2,q3⟩=>⟨by rw [q1,hx k q2],H.grow q3⟩
  have x0:(x == 0)=false:=by simpa using h0
  clear H hv hn hx;go_enter Tryz.func13,Tryz.ntmps13
  go_wp2_with (go_at_call 39;refine HR.out.mono ?_;rintro e w1 ⟨rfl,h1⟩;have HH:=hidden h1;clear h1)
  go_ret2;exact ⟨rfl,HH.out⟩

theorem apply_any (H:Hs w0 S w g gs room cs fr) {h:Nat} {T:Tre} (r:Rt cs h T) (v:Value) (l:List Wt) (hv:WrAt w v l) (hrd:∀x∈l,Kq S w0 fun w'=>Reads w' x.v x.b) (hL:Kq S w0 Laid) (hbd:∀i,own cs [] i≤1000000) (hn:l.length≤64) (ht:l.any tooL=false) (hf:∀ks,Lat l ks→noc cs+258 * ks.length≤room):
    Kc 13 #[.pointer (some ⟨g,0,none⟩),.int .i64 (h:Int),v] w (ApPost w0 S g gs room cs fr h T l):=by
  have W:=H.2;have hz:∀k:Nat,(64<l.length∨l.any tooL=true∨vAh true (cot cs h) (cat cs h) h≠0∨∃ks,Lat l ks∧ks.length=k)→bRf (noc cs) room (vAh true (cot cs h) (cat cs h) h) l k=0:=fun k hk=>by
    rcases hk with q | q | q | ⟨ks,q1,q2⟩
    · omega
    · rw [ht] at q
      cases q
    · exact absurd r.at0 q
    · rw [r.at0]
      have h2:=hf ks q1;obtain ⟨_,h3,_⟩:=H.sizes;have h4:=q1.len;rw [bRf_ok hn ht (by omega),if_pos (by omega)]
  have HRF:Hid (Kc 39 #[.pointer (some ⟨g,0,none⟩),.int .i64 (h:Int),v] w fun e w'=>e=.returned (.int .i64 0)∧Kb w w'):=(bref_any H h v l hv (by omega)).mono fun e w' ⟨k,q1,q2,q3⟩=>⟨by rw [q1,hz k q2],q3⟩
  have HLT:Hid (∀w',Kb w w'→Kc 41 #[v] w' (LatPost l w')):=fun w' hb=>latest_any v l w' (hv.grow hb) (by omega)
  have HGR:Hid (∀w4 b v1 ks,Kb w w4→w.heap.size≤b→Blk w4 b 82 #[.pointer (some ⟨g,0,none⟩),.slice none 0 0]→Lat l ks→ks.length≤l.length→Lst w4 37 34 v1 ks.length (flatE encW ks)→Kc 40 #[.pointer (some ⟨b,0,none⟩),.int .i64 (h:Int),.int .i64 0,v1] w4 fun e w5=>∃q ps lv G,e=.returned (.int .i64 q)∧Gw5 w w5 b g cs h T l ks q ps lv G):=fun w4 b v1 ks q1 q2 q3 q4 q5 q6=>gw5_any W (fun w' hb=>H.vw.grow hb) r hv hn ht q1 q2 q3 q4 q5 q6
  have HSH:Hid (∀w5 b ks q ps lv G,Gw5 w w5 b g cs h T l ks q ps lv G→Kc 42 #[.pointer (some ⟨b,0,none⟩),.int .i64 q] w5 fun e w6=>∃a c,e=.returned (.slice a (shL ps q).length c)∧w6.ownsRow w.heap.size 3 1 (.slice a (shL ps q).length c) (shL ps q).length (nats (shL ps q))∧Gw5 w w6 b g cs h T l ks q ps lv G):=fun w5 b ks q ps lv G x=>(shared11_any x.pr q (by have:=x.cnt;have:=x.few;omega)).mono fun e w6 ⟨a,c,e1,r1,b1⟩=>⟨a,c,e1,owR_base r1 x.bel.size,x.grow b1⟩
  have HCO:Hid (∀w6 b ks q ps lv G a c,Gw5 w w6 b g cs h T l ks q ps lv G→w6.ownsRow w.heap.size 3 1 (.slice a (shL ps q).length c) (shL ps q).length (nats (shL ps q))→Kc 43 #[.pointer (some ⟨g,0,none⟩),.int .i64 (h:Int),.slice a (shL ps q).length c] w6 fun e w7=>e=.returned (.bool true)∧Gw5 w w7 b g cs h T l ks q ps lv G∧w7.ownsRow w.heap.size 3 1 (.slice a (shL ps q).length c) (shL ps q).length (nats (shL ps q))):=fun w6 b ks q ps lv G a c x hr=>(bcountable_any (H.vw.grow x.bel) (fun z=>by
      have hcc:∀i,cc cs i≤1131072:=fun i=>by
        have h1:=W.ccLe i 1000000 (hbd i);obtain ⟨_,h2,h3⟩:=H.sizes;omega
      unfold cot;split
      · have:=hcc (z-1).toNat
        omega
      · omega) h a _ c (shL ps q) (ints9_lst (owR_lst hr) rfl) rfl (by have:=shL_len ps q;have:=x.cnt;have:=x.few;omega)).mono fun e w7 ⟨e1,b1⟩=>⟨e1,x.grow b1,owR_grow hr b1⟩
  have HHO:Hid (∀w7 b ks q ps lv G a c,Gw5 w w7 b g cs h T l ks q ps lv G→w7.ownsRow w.heap.size 3 1 (.slice a (shL ps q).length c) (shL ps q).length (nats (shL ps q))→Kc 44 #[.pointer (some ⟨g,0,none⟩),.slice a (shL ps q).length c] w7 fun e w8=>e=.returned (.slice none 0 0)∧∃cs1,Hd8 w0 w8 S b g gs room cs fr q ps lv cs1):=fun w7 b ks q ps lv G a c x hr=>hd8_any H hbd hn x hr
  have HBU:Hid (∀w5 w8 b ks q ps lv G cs1,Gw5 w w5 b g cs h T l ks q ps lv G→Hd8 w0 w8 S b g gs room cs fr q ps lv cs1→Kc 45 #[.pointer (some ⟨b,0,none⟩),.int .i64 q] w8 fun e w9=>∃s,e=.returned (.int .i64 (hdl s.ms q:Int))∧Hs w0 S w9 g gs room s.cs s.fr∧BzOk 0 0 ps.length q G ⟨cs1,fr,[]⟩ s):=fun w5 w8 b ks q ps lv G cs1 x d=>bld8_any W hrd hL hn (hf ks x.lat) x d
  have HDR:Hid (∀w5 w9 b ks q ps lv G cs1 s,Gw5 w w5 b g cs h T l ks q ps lv G→q≠(h:Int)→HmOk cs (shL ps q) cs1→BzOk 0 0 ps.length q G ⟨cs1,fr,[]⟩ s→Hs w0 S w9 g gs room s.cs s.fr→Kc 46 #[.pointer (some ⟨g,0,none⟩),.int .i64 (h:Int)] w9 fun e w10=>∃u1 u2 cs' fr',e=.returned (.tuple #[.int .i64 u1,.int .i64 u2])∧Hs w0 S w10 g gs room cs' fr'∧BatOk cs T.ents ks h (hdl s.ms q) ps.length G.olds cs'):=fun w5 w9 b ks q ps lv G cs1 s x hq hm o h9=>drp9_any W r x hq hm o h9
  have HNL:Hid (∀w',Kc 44 #[.pointer (some ⟨g,0,none⟩),.slice none 0 0] w' fun e w''=>e=.returned (.slice none 0 0)∧w''=w'):=fun w'=>bholdAll_nil _ w'
  have HPS:Hid (∀w5 b ks q ps lv G,q=(h:Int)→Gw5 w w5 b g cs h T l ks q ps lv G→ApPost w0 S g gs room cs fr h T l (.returned (.tuple #[.int .i64 (h:Int),.int .i64 0])) w5):=fun w5 b ks q ps lv G hq x=>by
    subst hq;exact ⟨ks,_,ps,G,h,cs,fr,rfl,H.grow x.bel,x.lat,x.gr,bat_same W r x.gr,fun _=>⟨rfl,rfl⟩⟩
  have HPN:Hid (∀w5 w10 b ks q ps lv G s cs' fr',q≠(h:Int)→Gw5 w w5 b g cs h T l ks q ps lv G→Hs w0 S w10 g gs room cs' fr'→BatOk cs T.ents ks h (hdl s q) ps.length G.olds cs'→ApPost w0 S g gs room cs fr h T l (.returned (.tuple #[.int .i64 (hdl s q:Int),.int .i64 0])) w10):=fun w5 w10 b ks q ps lv G s cs' fr' hq x h10 bt=>⟨ks,q,ps,G,_,cs',fr',rfl,h10,x.lat,x.gr,bt,fun e=>absurd e hq⟩
  have HSP:Hid ((Tryz.prog.info? 82).map (·.size)=some 2):=(by show _=_;kernel_rfl);have H1C:Hid ((#[.pointer (some ⟨g,0,none⟩),Value.slice none 0 0]:Array Value).all (·.oneCell')=true):=all_oneCell_toArray (cs:=[.pointer (some ⟨g,0,none⟩),Value.slice none 0 0]) fun u hu=>by
    rcases List.mem_cons.1 hu with e | hu
    · subst e;rfl
    · rcases List.mem_cons.1 hu with e | hu
      · subst e;rfl
      · cases hu
  generalize ApPost w0 S g gs room cs fr h T l=PP at HPS HPN ⊢;clear H r hv hrd hL hbd hn ht hf hz W;go_enter Tryz.func13,Tryz.ntmps13
  go_upto_region 6 with (first
    |(go_at_call 39;refine HRF.out.mono ?_;rintro e w1 ⟨rfl,b1⟩;have HB1:=hidden b1;clear b1 HRF)
    |((with_reducible refine at_ald 9 ?_);refine wpList_al _ rfl _ rfl _ zero_plan ?_;intro w2 b9 hg9 hl9 B9 q9;have HG9:=hidden (Nat.le_trans HB1.out.size hg9);have HQ9:=hidden q9;have HGG:=hidden hg9;clear hg9 hl9)
    |((with_reducible refine at_st 9 ?_);refine wpList_sto _ rfl _ _ _ rfl b9 _ #[.pointer (some ⟨g,0,none⟩),.slice none 0 0] rfl rfl B9 HSP.out rfl H1C.out ?_;intro w3 B93 r3;have HB93:=hidden B93;have HB3:=hidden (grow_trans HB1.out (below_row HQ9.out r3 HGG.out));clear B9 q9 B93 r3)
    |(go_at_call 41;refine (HLT.out _ HB3.out).mono ?_;rintro e w4 ⟨v1,ks,rfl,c1,c2,c3,c4,c5⟩;have HC1:=hidden c1;have HC2:=hidden c2;have HC4:=hidden c4;have HB4:=hidden (grow_trans HB3.out c5);have HB94:=hidden (HB93.out.grow c5);clear c1 c2 c3 c4 c5)
    |(go_at_call 40;refine (HGR.out _ _ _ _ HB4.out HG9.out HB94.out HC1.out HC4.out HC2.out).mono ?_;rintro e w5 ⟨q,ps,lv,G,rfl,g5⟩;have HG5:=hidden g5;clear g5 HGR HLT))
  by_cases hq:q=(h:Int)
  · have HS:=hidden (HPS.out _ _ _ _ _ _ _ hq HG5.out)
    subst hq;clear HPS HPN HSH HCO HHO HBU HDR HNL HG5 HC1 HC2 HC4 HB94
    go_wp2_with fail
    exact HS.out
  · have e3:(q == (h:Int))=false:=by simpa using hq
    have HQ:=hidden hq;clear HPS HC1 HC2 HC4 HB94
    go_wp2_with (first
      |(go_at_call 44;have mk:=mk1;clear mk;refine (HNL.out _).mono ?_;rintro e w11 ⟨rfl,hx⟩;rw [hx];clear hx w11)
      |(go_at_call 42;refine (HSH.out _ _ _ _ _ _ _ HG5.out).mono ?_;rintro e w6 ⟨a6,c6,rfl,r6,g6⟩;have HR6:=hidden r6;have HG6:=hidden g6;clear r6 g6 HSH HG5)
      |(go_at_call 43;refine (HCO.out _ _ _ _ _ _ _ _ _ HG6.out HR6.out).mono ?_;rintro e w7 ⟨rfl,g7,r7⟩;have HR7:=hidden r7;have HG7:=hidden g7;clear r7 g7 HCO HG6 HR6)
      |(go_at_call 44;refine (HHO.out _ _ _ _ _ _ _ _ _ HG7.out HR7.out).mono ?_;rintro e w8 ⟨rfl,cs1,d8⟩;have mk1:Hid True:=trivial;have HD8:=hidden d8;clear d8 HHO HR7)
      |(go_at_call 45;refine (HBU.out _ _ _ _ _ _ _ _ _ HG7.out HD8.out).mono ?_;rintro e w9 ⟨s,rfl,h9,o9⟩;have HH9:=hidden h9;have HO9:=hidden o9;clear h9 o9 HBU)
      |(go_at_call 46;refine (HDR.out _ _ _ _ _ _ _ _ _ _ HG7.out HQ.out HD8.out.hm HO9.out HH9.out).mono ?_;rintro e w10 ⟨u1,u2,cs',fr',rfl,h10,b10⟩;have HH10:=hidden h10;have HB10:=hidden b10;clear h10 b10 HDR HH9 HO9))
    exact HPN.out _ _ _ _ _ _ _ _ _ _ _ HQ.out HG7.out HH10.out HB10.out

end Go.Proofs.YtabiglnmfdpcfaaGreatDoor

namespace Go.Proofs.YtabiglnmfdpcfaaGreatDoor
variable {S fr:List Nat}
variable {T:Tre}
variable {b d g gs h i room:Nat}
variable {cs:Lz}
variable {kv lv:Value}
variable {q:Int}
variable {w w' w0 w4 w5:World}
set_option maxHeartbeats 8000000
set_option maxRecDepth 20000
open Go.RowKit

def trN:Nat→Nat→List Ent→List (Option Nat×List Ent)
  | 0,_,l=>if l.length=1 then [(none,l)] else []
  | n+1,d,l=>if l.length=0 then [] else if l.length=1 then [(none,l)] else (some d,l)::(trN n (d+1) (l.filter fun e=>kb e.1 d == 0)++trN n (d+1) (l.filter fun e=>!(kb e.1 d == 0)))
theorem trN_nil (n d:Nat):trN n d []=[]:=by cases n <;> rfl
theorem trN_one (n d:Nat) (e:Ent):trN n d [e]=[(none,[e])]:=by cases n <;> rfl

theorem sides_left {A B:List Ent} (ha:∀e∈A,kb e.1 d=0) (hb:∀e∈B,kb e.1 d=1):(A++B).filter (fun e=>kb e.1 d == 0)=A∧(A++B).filter (fun e=>!(kb e.1 d == 0))=B:=by
  have h1:A.filter (fun e=>kb e.1 d == 0)=A:=List.filter_eq_self.2 fun e he=>by simp [ha e he]
  have h2:B.filter (fun e=>kb e.1 d == 0)=[]:=List.filter_eq_nil_iff.2 fun e he=>by simp [hb e he]
  have h3:A.filter (fun e=>!(kb e.1 d == 0))=[]:=List.filter_eq_nil_iff.2 fun e he=>by simp [ha e he]
  have h4:B.filter (fun e=>!(kb e.1 d == 0))=B:=List.filter_eq_self.2 fun e he=>by simp [hb e he]
  rw [List.filter_append,List.filter_append,h1,h2,h3,h4];exact ⟨List.append_nil _,rfl⟩

theorem nds_tr {cs:Lz} (W:Wf cs []):∀(T:Tre) (h d n:Nat),IsT cs h T→((sdC cs h).kind=2→(sdC cs h).dp=d)→d+n=256→T.nds=trN n d T.ents
  | .emp,_,d,n,_,_,_=>(trN_nil n d).symm
  | .lf k b,_,d,n,_,_,_=>(trN_one n d (k,b)).symm
  | .nd d hl hr L R,h,d',n,hT,hd,hn=>by
    have o:=nd_ok W hT;obtain ⟨h1,h2,h3,h4,h5,h6,h7,h8⟩:=hT;have es:sdC cs h=ce cs (h-1):=if_neg (by omega);obtain rfl:d=d':=by
      rw [es] at hd;rw [← h4];exact hd h3
    have two:=o.two;have hlt:d<256:=o.dp;obtain ⟨m,rfl⟩:∃m,n=m+1:=⟨n-1,by omega⟩;have iL:=nds_tr W L hl (d+1) m h7 o.kl (by omega);have iR:=nds_tr W R hr (d+1) m h8 o.kr (by omega);obtain ⟨s1,s2⟩:=sides_left o.bL o.bR;show (some d,L.ents++R.ents)::(L.nds++R.nds)=trN (m+1) d (L.ents++R.ents);rw [trN,if_neg (by omega),if_neg (by omega),s1,s2,iL,iR]

theorem gnds_tr {cs:Lz} (W:Wf cs []):∀(G:Gt) (ps:List Pn) (lo hi:Nat) (q:Int) (d n:Nat),IsG cs ps lo hi q G→GOk cs d G→d+n=256→(trN n d G.ents).Perm (G.pnd++G.ond)
  | .old h T,ps,lo,hi,q,d,n,g,ok,hn=>by
    obtain ⟨rfl,rfl,t⟩:=g;rw [show (Gt.old h T).ents=T.ents from rfl,← nds_tr W T h d n t ok hn];exact List.Perm.refl _
  | .lf x,ps,lo,hi,q,d,n,g,ok,hn=>by
    rw [show (Gt.lf x).ents=[(x.k,x.b)] from rfl,trN_one];exact List.Perm.refl _
  | .nd e L R,ps,lo,hi,q,d,n,g,ok,hn=>by
    obtain ⟨m,k,a,b,_,_,_,gL,gR⟩:=g;obtain ⟨rfl,hd,okL,okR,bL,bR,two⟩:=ok;obtain ⟨j,rfl⟩:∃j,n=j+1:=⟨n-1,by omega⟩;have iL:=gnds_tr W L ps lo m a (e+1) j gL okL (by omega);have iR:=gnds_tr W R ps m k b (e+1) j gR okR (by omega);obtain ⟨s1,s2⟩:=sides_left bL bR;show (trN (j+1) e (L.ents++R.ents)).Perm (((some e,L.ents++R.ents)::(L.pnd++R.pnd))++(L.ond++R.ond));rw [trN,if_neg (by omega),if_neg (by omega),s1,s2,List.cons_append];refine List.Perm.cons _ ((iL.append iR).trans ?_);rw [List.append_assoc,List.append_assoc];refine List.Perm.append_left _ ?_;rw [← List.append_assoc,← List.append_assoc];exact List.Perm.append_right _ List.perm_append_comm

theorem fresh_tr (W:Wf cs []) {h:Nat} {T:Tre} {ks:List Wt} {q:Int} {ps:List Pn} {G:Gt} (r:IsT cs h T) (hd:(sdC cs h).kind=2→(sdC cs h).dp=0) (g:GrOk cs 0 h T ks [] q ps G) (f:Option Nat×List Ent→Bool) (hf:∀y∈trN 256 0 G.ents,f y=true↔∃z∈trN 256 0 T.ents,y.1=z.1∧y.2=z.2):((trN 256 0 G.ents).filter fun y=>!(f y)).length=ps.length:=by
  have pm:=gnds_tr W G ps 0 ps.length q 0 256 g.isG g.ok rfl;rw [← nds_tr W T h 0 256 r hd rfl] at hf;have h1:(G.pnd.filter fun y=>!(f y))=G.pnd:=List.filter_eq_self.2 fun y hy=>by
    cases e:f y with
    | false=>rfl
    | true=>
      obtain ⟨z,hz,e1,e2⟩:=(hf y (pm.mem_iff.2 (List.mem_append_left _ hy))).1 e;exact absurd (by rw [e2]) (g.pnd y hy z hz e1)
  have h2:(G.ond.filter fun y=>!(f y))=[]:=List.filter_eq_nil_iff.2 fun y hy=>by
    rw [(hf y (pm.mem_iff.2 (List.mem_append_right _ hy))).2 ⟨y,g.ond y hy,rfl,rfl⟩];simp
  rw [(pm.filter _).length_eq,List.filter_append,h1,h2,List.append_nil];simpa using g.isG.pnds

theorem trN_perm_len (n d:Nat) {A B:List Ent} (h:A.Perm B):(trN n d A).length=(trN n d B).length:=by
  induction n generalizing d A B with
  | zero=>
    unfold trN;rw [h.length_eq];split <;> rfl
  | succ n ih=>
    unfold trN;rw [h.length_eq];split
    · rfl
    · split
      · rfl
      · rw [List.length_cons,List.length_cons,List.length_append,List.length_append,ih (d+1) (h.filter _),ih (d+1) (h.filter _)]

end Go.Proofs.YtabiglnmfdpcfaaGreatDoor
