/- The frames of both. -/
import Derived.Test.YtpjnadgjohbhbaaPiIn
import Derived.Test.YtpjnadgjohbhbaaPiIn2
